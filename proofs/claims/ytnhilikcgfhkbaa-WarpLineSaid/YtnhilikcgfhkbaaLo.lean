/- A region that draws its order, whose operations' values are told up to a relation of their own, and whose worlds are told by one class: one walk in the order of the text serves every order. -/
import Derived.Deep.Quiet
import Derived.Tactics
import Derived.Tactics2
import Derived.KernelRfl
import Derived.Test.YtnhilikcgfhkbaaFl
namespace Go.Proofs.Ytnhilikcgfhkbaa.Fl

/-- What an operation of the loose kind leaves: a value of V, in a world of C. -/
def looseUpon (P : Program) (C : World → Prop) (V : Value → Prop) : Result Next → Prop
  | .ok (.value u) w' => V u ∧ C w'
  | .ok (.enter f args) w' => Calls P f args w' fun e w'' => ∃ v, e = .returned v ∧ V v ∧ C w''
  | _ => False

theorem looseUpon.some {P : Program} {C : World → Prop} {V : Value → Prop} {r : Result Next} (h : looseUpon P C V r) : ∃ v, V v := by
  unfold looseUpon at h
  split at h
  · exact ⟨_, h.1⟩
  · obtain ⟨_, _, _, ⟨v, _, hv, _⟩, _⟩ := h []
    exact ⟨v, hv⟩
  · exact h.elim

section
variable {P : Program} {ops : Array Oper} {C : World → Prop} {md : Region.Mode} {Q : Exit → Act → World → Prop}

/-- The values that an operation may leave in its slot, in every world of C: one, the world being as it was (kind none); those of V, the world being of C (kind 'some V'). -/
def Gives (P : Program) (ops : Array Oper) (C : World → Prop) (kd : Option (Value → Prop)) (o : Oper) (a : Act) (S : Value → Prop) : Prop :=
  if Region.wanted o (yielded ops a.tmps) = true then
    match kd with
    | none => ∃ v, S = (fun u => u = v) ∧ ∀ w, C w → (execOp a.eval o).run P w = .ok (.value v) w
    | some V => S = V ∧ ∀ w, C w → looseUpon P C V ((execOp a.eval o).run P w)
  else S = fun u => u = undef

theorem Gives.move {kd : Option (Value → Prop)} {o : Oper} {a a' : Act} {S : Value → Prop} (h : Gives P ops C kd o a S) (he : execOp a'.eval o = execOp a.eval o)
    (hw : Region.wanted o (yielded ops a'.tmps) = Region.wanted o (yielded ops a.tmps)) : Gives P ops C kd o a' S := by
  unfold Gives at *
  rw [he, hw]
  exact h

theorem Gives.one {kd : Option (Value → Prop)} {o : Oper} {a : Act} {S T : Value → Prop} {w : World} (hC : C w) (h : Gives P ops C kd o a S) (k : Gives P ops C kd o a T) : S = T := by
  unfold Gives at *
  split at h
  · rename_i hw
    rw [if_pos hw] at k
    cases kd with
    | none =>
      obtain ⟨v, rfl, hv⟩ := h
      obtain ⟨u, rfl, hu⟩ := k
      have e := (hv w hC).symm.trans (hu w hC)
      injection e with e1 _
      injection e1 with e2
      rw [e2]
    | some V => exact h.1.trans k.1.symm
  · rename_i hw
    rw [if_neg hw] at k
    exact h.trans k.symm

theorem Gives.ex {kd : Option (Value → Prop)} {o : Oper} {a : Act} {S : Value → Prop} {w : World} (hC : C w) (h : Gives P ops C kd o a S) : ∃ v, S v := by
  unfold Gives at h
  split at h
  · cases kd with
    | none => obtain ⟨v, rfl, _⟩ := h; exact ⟨v, rfl⟩
    | some V => obtain ⟨rfl, hv⟩ := h; exact (hv w hC).some
  · exact ⟨undef, by rw [h]⟩

/-- One operation. -/
def lStep (P : Program) (ops : Array Oper) (C : World → Prop) (kd : Option (Value → Prop)) (o : Oper) (K : Act → Prop) (a : Act) : Prop :=
  ∃ S, Gives P ops C kd o a S ∧ ∀ v, S v → K (a.put o.dst v)

theorem wpOp_of_lStep {kd : Option (Value → Prop)} {o : Oper} {K : Act → Prop} {a : Act} {i : Nat} {w : World} {K' : Act → World → Prop} (hi : ops[i]? = some o) (hC : C w)
    (hK : ∀ a' w', C w' → K a' → K' a' w') (h : lStep P ops C kd o K a) : wpOp P ops Q i K' a w := by
  obtain ⟨S, hS, hn⟩ := h
  unfold Gives at hS
  unfold wpOp
  rw [hi]
  dsimp only
  split at hS
  · rename_i hw
    rw [if_pos hw]
    refine .inl ?_
    unfold Oper.wp
    cases kd with
    | none =>
      obtain ⟨v, rfl, hv⟩ := hS
      rw [hv w hC]
      exact hK _ _ hC (hn v rfl)
    | some V =>
      obtain ⟨rfl, hv⟩ := hS
      have h1 := hv w hC
      generalize (execOp a.eval o).run P w = r at h1
      unfold looseUpon at h1
      split at h1
      · exact hK _ _ h1.2 (hn _ h1.1)
      · refine Calls.mono h1 fun e w'' ⟨v, he, hV, hc⟩ => ?_
        subst he
        exact hK _ _ hc (hn _ hV)
      · exact h1.elim
  · rename_i hw
    rw [if_neg hw]
    exact hK _ _ hC (hn undef (by rw [hS]))

/-- Whatever order is picked, till only the last operation (number m) is left; then F. -/
def wpAnyL (P : Program) (md : Region.Mode) (ops : Array Oper) (C : World → Prop) (kinds : Nat → Option (Value → Prop)) (m : Nat) (F : Act → Prop) : Nat → Array Bool → Act → Prop
  | 0, listed, a => (∀ k, k < m → listed.getD k true = true) ∧ m ∈ Region.ready md ops listed ∧ F a
  | fuel + 1, listed, a => Region.ready md ops listed ≠ [] ∧ ∀ i ∈ Region.ready md ops listed, ∃ o, ops[i]? = some o ∧ lStep P ops C (kinds i) o (wpAnyL P md ops C kinds m F fuel (listed.setIfInBounds i true)) a

/-- The last operation waits for all others. -/
def lastWaits (md : Region.Mode) (ops : Array Oper) (m : Nat) : Bool :=
  ops.size == m + 1 && match ops[m]? with
    | some o => (List.range m).all fun k => o.after.any fun e => Region.binds md e && e.on == k
    | none => false

theorem lastWaits_spec {m : Nat} (h : lastWaits md ops m = true) {listed : Array Bool} (hr : m ∈ Region.ready md ops listed) : ∀ k, k < m → listed.getD k false = true := by
  intro k hk
  simp only [lastWaits, Bool.and_eq_true] at h
  obtain ⟨_, o, ho, hall⟩ := mem_ready.1 hr
  rw [ho] at h
  have h2 := List.all_eq_true.1 h.2 k (List.mem_range.2 hk)
  obtain ⟨e, he, hb⟩ := Array.any_eq_true'.1 h2
  simp only [Bool.and_eq_true, beq_iff_eq] at hb
  have := hall e he hb.1
  rw [hb.2] at this
  exact this

theorem lt_of_ready {i : Nat} {listed : Array Bool} (h : i ∈ Region.ready md ops listed) : i < ops.size := by
  obtain ⟨_, o, ho, _⟩ := mem_ready.1 h
  exact (Array.getElem?_eq_some_iff.1 ho).1

theorem getD_true_of {listed : Array Bool} {k : Nat} (h : listed.getD k false = true) : listed.getD k true = true := by
  rcases Nat.lt_or_ge k listed.size with h' | h'
  · simp [h'] at h ⊢; exact h
  · simp [Array.getElem?_eq_none h']

/-- An operation that may come up now may be taken first. -/
theorem wpAnyL_first {kinds : Nat → Option (Value → Prop)} {m : Nat} {F : Act → Prop} {w0 : World} (hC : C w0) (hL : lastWaits md ops m = true) {i : Nat} (him : i < m) {oi : Oper} (hi : ops[i]? = some oi)
    (hsel : ∀ (j : Nat) (o : Oper) cs b, ops[j]? = some o → o.op ≠ .select cs b) {S : Value → Prop} :
    ∀ (fuel : Nat) (listed : Array Bool) (a : Act),
      (∀ j oj, ops[j]? = some oj → j ≠ i → listed.getD j true = false → (∀ e ∈ oj.after, Region.binds md e = true → e.on ≠ i) → oi.apart ops oj = true) →
      i ∈ Region.ready md ops listed → Gives P ops C (kinds i) oi a S →
      (∀ v, S v → wpAnyL P md ops C kinds m F fuel (listed.setIfInBounds i true) (a.put oi.dst v)) → wpAnyL P md ops C kinds m F (fuel + 1) listed a := by
  have small : ∀ (listed : Array Bool) (j : Nat), i ∈ Region.ready md ops listed → j ∈ Region.ready md ops listed → j < m := by
    intro listed j hr hj
    have h1 := lt_of_ready hj
    have h2 : ops.size = m + 1 := by simp only [lastWaits, Bool.and_eq_true, beq_iff_eq] at hL; exact hL.1
    rcases Nat.lt_or_ge j m with h | h
    · exact h
    · obtain rfl : j = m := by omega
      have h3 := getD_true_of (lastWaits_spec hL hj i him)
      rw [(mem_ready.1 hr).1] at h3
      cases h3
  intro fuel
  induction fuel with
  | zero =>
    intro listed a _ hr hG H
    refine ⟨fun h => (by rw [h] at hr; cases hr), fun j hj => ?_⟩
    by_cases hji : j = i
    · subst hji; exact ⟨oi, hi, S, hG, H⟩
    · obtain ⟨v, hv⟩ := hG.ex hC
      have h1 := (H v hv).1 j (small listed j hr hj)
      rw [getD_set_ne true (Ne.symm hji), (mem_ready.1 hj).1] at h1
      cases h1
  | succ fuel ih =>
    intro listed a hfree hr hG H
    refine ⟨fun h => (by rw [h] at hr; cases hr), fun j hj => ?_⟩
    by_cases hji : j = i
    · subst hji; exact ⟨oi, hi, S, hG, H⟩
    · obtain ⟨hjun, oj, hoj, hall⟩ := mem_ready.1 hj
      have hnot : ∀ e ∈ oj.after, Region.binds md e = true → e.on ≠ i := by
        intro e he hb heq
        have h1 := getD_true_of (hall e he hb)
        rw [heq, (mem_ready.1 hr).1] at h1
        cases h1
      obtain ⟨h1, h2, h3⟩ := Oper.apart_spec (hfree j oj hoj hji hjun hnot)
      have hsi := fun cs b => hsel i oi cs b hi
      have hsj := fun cs b => hsel j oj cs b hoj
      -- what j gives does not hang on i's value
      have got : ∀ v, S v → ∃ T, Gives P ops C (kinds j) oj a T ∧ ∀ u, T u → wpAnyL P md ops C kinds m F fuel ((listed.setIfInBounds i true).setIfInBounds j true) ((a.put oi.dst v).put oj.dst u) := by
        intro v hv
        obtain ⟨o', ho', T, hT, hn⟩ := (H v hv).2 j (ready_mono hj hji)
        rw [hoj] at ho'
        cases ho'
        exact ⟨T, hT.move (execOp_put oj hsj a oi.dst v h1).symm (wanted_put oj a oi.dst v h1).symm, hn⟩
      obtain ⟨v0, hv0⟩ := hG.ex hC
      obtain ⟨T, hT, _⟩ := got v0 hv0
      refine ⟨oj, hoj, T, hT, fun u hu => ih (listed.setIfInBounds j true) (a.put oj.dst u) ?_ (ready_mono hr (Ne.symm hji)) (hG.move (execOp_put oi hsi a oj.dst u h3) (wanted_put oi a oj.dst u h3)) fun v hv => ?_⟩
      · intro k ok hk hki hun hno
        refine hfree k ok hk hki ?_ hno
        by_cases hjk : j = k
        · subst hjk; exact hjun
        · rw [getD_set_ne true hjk] at hun; exact hun
      · obtain ⟨T', hT', hn⟩ := got v hv
        have e := Gives.one hC hT hT'
        subst e
        have := hn u hu
        rw [Array.setIfInBounds_comm _ _ (Ne.symm hji)] at this
        rw [← Act.put_comm a v u h2]
        exact this

theorem wpAny_of_L {kinds : Nat → Option (Value → Prop)} {m : Nat} {last : Oper} (hL : lastWaits md ops m = true) (hm : ops[m]? = some last) :
    ∀ (fuel : Nat) (listed : Array Bool) (a : Act) (w : World), C w → wpAnyL P md ops C kinds m (fun a => ∀ w, C w → wpList P ops Q [last] a w) fuel listed a → wpAny P md ops Q (fuel + 1) listed a w := by
  have hsz : ops.size = m + 1 := by simp only [lastWaits, Bool.and_eq_true, beq_iff_eq] at hL; exact hL.1
  intro fuel
  induction fuel with
  | zero =>
    intro listed a w hw h
    obtain ⟨hall, hr, hF⟩ := h
    refine ⟨fun h0 => (by rw [h0] at hr; cases hr), fun i hi => ?_⟩
    have hlt := lt_of_ready hi
    obtain rfl : i = m := by
      rcases Nat.lt_or_ge i m with h' | h'
      · have := hall i h'; rw [(mem_ready.1 hi).1] at this; cases this
      · omega
    have hend : Region.ready md ops (listed.setIfInBounds i true) = [] := by
      refine List.eq_nil_iff_forall_not_mem.2 fun j hj => ?_
      have hjl := lt_of_ready hj
      have h0 := (mem_ready.1 hj).1
      by_cases hji : j = i
      · subst hji
        rcases Nat.lt_or_ge j listed.size with h' | h'
        · simp [h'] at h0
        · simp [h'] at h0
      · rw [getD_set_ne true (Ne.symm hji), hall j (by omega)] at h0
        cases h0
    have h1 := hF w hw
    unfold wpList at h1
    unfold wpOp
    rw [hm]
    dsimp only
    split at h1
    · rename_i hwd
      rw [if_pos hwd]
      exact h1.imp (Oper.wp_mono fun a' w' h' => ⟨hend, h'⟩) id
    · rename_i hwd
      rw [if_neg hwd]
      exact ⟨hend, h1⟩
  | succ fuel ih =>
    intro listed a w hw h
    refine ⟨fun h0 => absurd h0 h.1, fun i hi => ?_⟩
    obtain ⟨o, ho, hs⟩ := h.2 i hi
    exact wpOp_of_lStep ho hw (fun a' w' hw' hk => ih _ a' w' hw' hk) hs

/-- The walk in the order of the text, a kind beside each operation; the last operation is left to the plain walk. -/
def wpLoose (P : Program) (ops : Array Oper) (C : World → Prop) (Q : Exit → Act → World → Prop) : List (Option (Value → Prop)) → List Oper → Act → Prop
  | _, [], _ => False
  | _, [o], a => ∀ w, C w → wpList P ops Q [o] a w
  | kds, o :: o2 :: rest, a => lStep P ops C (kds.headD none) o (wpLoose P ops C Q kds.tail (o2 :: rest)) a

theorem wpAnyL_lex {m : Nat} {w0 : World} (hC : C w0) (hs : Region.noSelect ops = true) (hL : lastWaits md ops m = true) {last : Oper} (hlast : ops[m]? = some last) {kinds : Nat → Option (Value → Prop)} :
    ∀ (l : List Oper) (kds : List (Option (Value → Prop))) (k : Nat) (listed : Array Bool) (a : Act), (∀ j, l[j]? = ops[k + j]?) → (∀ j, kinds (k + j) = kds.getD j none) → k + l.length = m + 1 →
      (∀ j, j < k → listed.getD j true = true) → Region.lexFrom md ops l.length k listed = true → wpLoose P ops C Q kds l a →
      wpAnyL P md ops C kinds m (fun a => ∀ w, C w → wpList P ops Q [last] a w) (l.length - 1) listed a
  | [], _, _, _, _, _, _, _, _, _, h => h.elim
  | [o], kds, k, listed, a, hl, hk, hn, hd, hB, h => by
    have h0 : ops[k]? = some o := by simpa using (hl 0).symm
    have hkm : k = m := by simp at hn; omega
    subst hkm
    rw [hlast] at h0
    cases h0
    simp only [List.length_cons, List.length_nil, Region.lexFrom, Bool.and_eq_true] at hB
    exact ⟨hd, by simpa using hB.1.1, h⟩
  | o :: o2 :: l, kds, k, listed, a, hl, hk, hn, hd, hB, h => by
    have h0 : ops[k]? = some o := by simpa using (hl 0).symm
    have hkm : k < m := by simp at hn; omega
    simp only [List.length_cons, Region.lexFrom, Bool.and_eq_true] at hB
    obtain ⟨⟨hr, hf⟩, hB'⟩ := hB
    obtain ⟨S, hS, hK⟩ := h
    have e0 : kinds k = kds.headD none := by have := hk 0; cases kds <;> simpa using this
    rw [← e0] at hS
    have hr' : k ∈ Region.ready md ops listed := by simpa using hr
    have hsz := lt_of_ready hr'
    refine wpAnyL_first hC hL hkm h0 (Region.noSelect_spec hs) _ listed a (Region.free_spec h0 hf) hr' hS fun v hv => ?_
    refine wpAnyL_lex hC hs hL hlast (o2 :: l) kds.tail (k + 1) _ _ (fun j => ?_) (fun j => ?_) (by simp at hn ⊢; omega) (fun j hj => ?_) (by simpa [Region.lexFrom] using hB') (hK v hv)
    · have := hl (j + 1); simpa [Nat.add_assoc, Nat.add_comm 1 j] using this
    · have := hk (j + 1)
      rw [Nat.add_assoc, Nat.add_comm 1 j, this]
      cases kds <;> simp
    · by_cases hjk : j = k
      · subst hjk
        have h1 := (mem_ready.1 hr').1
        rcases Nat.lt_or_ge j listed.size with h' | h'
        · simp [h']
        · simp [h']
      · rw [getD_set_ne true (Ne.symm hjk)]
        exact hd j (by omega)

/-- The law: a region that draws, written out. 'm': its last operation's number. -/
theorem wp_region_loose {id : Nat} {a : Act} {w : World} {l : List Oper} (C : World → Prop) (kds : List (Option (Value → Prop))) (m : Nat) (hm : P.follows .mixedOrders = true) (hB : Region.lexB .any l.toArray = true)
    (hL : lastWaits .any l.toArray m = true) (hC : C w.drew) (h : wpLoose P l.toArray C Q kds l a) : (Code.region id l.toArray true).wp P Q a w := by
  simp only [Region.lexB, Bool.and_eq_true] at hB
  have hsz : l.length = m + 1 := by have := hL; simp only [lastWaits, Bool.and_eq_true, beq_iff_eq] at this; simpa using this.1
  obtain ⟨last, hlast⟩ : ∃ o, l.toArray[m]? = some o := ⟨l[m]'(by omega), by simp⟩
  refine wp_region_any hm ?_
  have h1 := wpAnyL_lex (P := P) (Q := Q) (kinds := fun j => kds.getD j none) hC hB.1 hL hlast l kds 0 (Array.replicate l.toArray.size false) a (by simp) (by simp) (by omega) (by simp) (by simpa using hB.2) h
  have h2 := wpAny_of_L hL hlast _ _ _ _ hC h1
  have e : l.length - 1 + 1 = l.toArray.size := by simp; omega
  rw [e] at h2
  exact h2

/-! The steps -/
theorem loose_step {kds : List (Option (Value → Prop))} {o o2 : Oper} {rest : List Oper} {a : Act} (h : ∀ K : Act → Prop, (∀ a, wpLoose P ops C Q kds.tail (o2 :: rest) a → K a) → lStep P ops C (kds.headD none) o K a) :
    wpLoose P ops C Q kds (o :: o2 :: rest) a := h _ fun _ h => h
theorem lStep_one {o : Oper} {a : Act} {K : Act → Prop} (hw : Region.wanted o (yielded ops a.tmps) = true) (v : Value) (h : ∀ w, C w → (execOp a.eval o).run P w = .ok (.value v) w) (hK : K (a.put o.dst v)) : lStep P ops C none o K a :=
  ⟨fun u => u = v, by unfold Gives; rw [if_pos hw]; exact ⟨v, rfl, h⟩, fun u hu => by subst hu; exact hK⟩
theorem lStep_any {o : Oper} {a : Act} {K : Act → Prop} {V : Value → Prop} (hw : Region.wanted o (yielded ops a.tmps) = true) (h : ∀ w, C w → looseUpon P C V ((execOp a.eval o).run P w)) (hK : ∀ v, V v → K (a.put o.dst v)) : lStep P ops C (some V) o K a :=
  ⟨V, by unfold Gives; rw [if_pos hw]; exact ⟨rfl, h⟩, hK⟩
theorem lStep_skip {kd : Option (Value → Prop)} {o : Oper} {a : Act} {K : Act → Prop} (hw : Region.wanted o (yielded ops a.tmps) = false) (hK : K (a.put o.dst undef)) : lStep P ops C kd o K a :=
  ⟨fun u => u = undef, by unfold Gives; rw [if_neg (by rw [hw]; exact Bool.false_ne_true)], fun u hu => by subst hu; exact hK⟩
end
end Go.Proofs.Ytnhilikcgfhkbaa.Fl
