/- A region that draws its order, in one walk in the order of the text: operations' values told up to a relation, calls and new blocks among them; what comes behind all others (a store) is left to the plain walk. Blocks that are known whole; a world told by what is known of it. Rows that a call owns: append, to the same block or to a new one; all blocks but one as they were. Rows of elements of k cells in memory: read at any place, grown by one, cut short. -/
import Derived.Deep.Quiet
import Derived.Tactics
import Derived.Tactics2
import Derived.KernelRfl
import Derived.Laws.AppendOwn
import Derived.Laws.OwnMore
import Derived.ArgAppend
import Derived.Deep.RegionLaw
import Derived.Deep.LoopGhost
import Derived.Test.YtijoaklknpkdoaaGreatG1
import Derived.Test.YtijoaklknpkdoaaGreatRows
namespace Go.Proofs.YtijoaklknpkdoaaGreat.Lp
open Go.RowKit Fl

/-- What an operation leaves: a value of V, and all that was there as it was. -/
def Upon (P : Program) (w0 : World) (V : Value → World → Prop) : Result Next → Prop
  | .ok (.value u) w' => V u w' ∧ Below w0.heap.size w0 w'
  | .ok (.enter f args) w1 => Calls P f args w1 fun e w' => ∃ v, e = .returned v ∧ V v w' ∧ Below w0.heap.size w0 w'
  | _ => False

theorem Upon.some {P : Program} {w0 : World} {V : Value → World → Prop} {r : Result Next} (h : Upon P w0 V r) : ∃ v w, V v w := by
  unfold Upon at h
  split at h
  · exact ⟨_, _, h.1⟩
  · obtain ⟨_, _, _, ⟨v, _, hv, _⟩, _⟩ := h []
    exact ⟨v, _, hv⟩
  · exact h.elim

/-- What is told of a world stays true while nothing that was there turns. -/
def Stable (G : World → Prop) : Prop := ∀ w w', Below w.heap.size w w' → G w → G w'

theorem Stable.const (p : Prop) : Stable fun _ => p := fun _ _ _ h => h
theorem Stable.and {G H : World → Prop} (hG : Stable G) (hH : Stable H) : Stable fun w => G w ∧ H w := fun w w' hb h => ⟨hG w w' hb h.1, hH w w' hb h.2⟩
theorem Stable.block (b : Nat) (o : Obj) (W : World) : Stable fun w => W.heap.size ≤ b ∧ w.heap[b]? = some o := fun w w' hb h => by
  refine ⟨h.1, ?_⟩
  have hlt : b < w.heap.size := (Array.getElem?_eq_some_iff.1 h.2).1
  rw [hb.block b hlt]
  exact h.2
theorem Stable.cl (W : World) : Stable (Cl W) := fun _ _ hb h => Cl.call h hb

abbrev Kd := Option (Value → World → Prop)

section
variable {P : Program} {ops : Array Oper} {C : World → Prop} {md : Region.Mode} {Q : Exit → Act → World → Prop}

/-- The values that an operation may leave in its slot, in every world of C. -/
def Gives (P : Program) (ops : Array Oper) (C : World → Prop) (kd : Kd) (o : Oper) (a : Act) (S : Value → World → Prop) : Prop :=
  if Region.wanted o (yielded ops a.tmps) = true then
    match kd with
    | none => ∃ v, S = (fun u _ => u = v) ∧ ∀ w, C w → (execOp a.eval o).run P w = .ok (.value v) w
    | some V => S = V ∧ (∀ v, Stable (V v)) ∧ ∀ w, C w → Upon P w V ((execOp a.eval o).run P w)
  else S = fun u _ => u = undef

theorem Gives.move {kd : Kd} {o : Oper} {a a' : Act} {S : Value → World → Prop} (h : Gives P ops C kd o a S) (he : execOp a'.eval o = execOp a.eval o)
    (hw : Region.wanted o (yielded ops a'.tmps) = Region.wanted o (yielded ops a.tmps)) : Gives P ops C kd o a' S := by
  unfold Gives at *
  rw [he, hw]
  exact h

theorem Gives.one {kd : Kd} {o : Oper} {a : Act} {S T : Value → World → Prop} {w : World} (hC : C w) (h : Gives P ops C kd o a S) (k : Gives P ops C kd o a T) : S = T := by
  unfold Gives at *
  split at h
  · rename_i hw
    rw [if_pos hw] at k
    cases kd with
    | none =>
      obtain ⟨v, rfl, hv⟩ := h
      obtain ⟨u, rfl, hu⟩ := k
      have e := (hv w hC).symm.trans (hu w hC)
      injection e with e1 _
      injection e1 with e2
      rw [e2]
    | some V => exact h.1.trans k.1.symm
  · rename_i hw
    rw [if_neg hw] at k
    exact h.trans k.symm

theorem Gives.ex {kd : Kd} {o : Oper} {a : Act} {S : Value → World → Prop} {w : World} (hC : C w) (h : Gives P ops C kd o a S) : ∃ v w, S v w := by
  unfold Gives at h
  split at h
  · cases kd with
    | none => obtain ⟨v, rfl, _⟩ := h; exact ⟨v, w, rfl⟩
    | some V => obtain ⟨rfl, _, hv⟩ := h; exact (hv w hC).some
  · exact ⟨undef, w, by rw [h]⟩

theorem Gives.stable {kd : Kd} {o : Oper} {a : Act} {S : Value → World → Prop} (h : Gives P ops C kd o a S) (v : Value) : Stable (S v) := by
  unfold Gives at h
  split at h
  · cases kd with
    | none => obtain ⟨v, rfl, _⟩ := h; exact Stable.const _
    | some V => obtain ⟨rfl, hs, _⟩ := h; exact hs v
  · rw [h]; exact Stable.const _

/-- One operation. -/
def Step (P : Program) (ops : Array Oper) (C : World → Prop) (kd : Kd) (o : Oper) (K : Act → (World → Prop) → Prop) (a : Act) (G : World → Prop) : Prop :=
  ∃ S, Gives P ops C kd o a S ∧ ∀ v, (∃ w, S v w) → K (a.put o.dst v) (fun w => G w ∧ S v w)

theorem wpOp_of_step {kd : Kd} {o : Oper} {K : Act → (World → Prop) → Prop} {a : Act} {G : World → Prop} {i : Nat} {w : World} {K' : Act → World → Prop} (hi : ops[i]? = some o) (hC : ∀ w, G w → C w) (hG : Stable G) (hw0 : G w)
    (hK : ∀ a' G' w', (∀ w, G' w → C w) → Stable G' → G' w' → K a' G' → K' a' w') (h : Step P ops C kd o K a G) : wpOp P ops Q i K' a w := by
  obtain ⟨S, hS, hn⟩ := h
  have hst := hS.stable
  unfold Gives at hS
  unfold wpOp
  rw [hi]
  dsimp only
  have fin : ∀ v w', S v w' → G w' → K' (a.put o.dst v) w' := fun v w' hv hg =>
    hK _ _ _ (fun w h => hC w h.1) (hG.and (hst v)) ⟨hg, hv⟩ (hn v ⟨w', hv⟩)
  split at hS
  · rename_i hw
    rw [if_pos hw]
    refine .inl ?_
    unfold Oper.wp
    cases kd with
    | none =>
      obtain ⟨v, rfl, hv⟩ := hS
      rw [hv w (hC w hw0)]
      exact fin v w rfl hw0
    | some V =>
      obtain ⟨rfl, _, hv⟩ := hS
      have h1 := hv w (hC w hw0)
      generalize (execOp a.eval o).run P w = r at h1
      unfold Upon at h1
      split at h1
      · exact fin _ _ h1.1 (hG _ _ h1.2 hw0)
      · refine Calls.mono h1 fun e w'' ⟨v, he, hV, hb⟩ => ?_
        subst he
        exact fin _ _ hV (hG _ _ hb hw0)
      · exact h1.elim
  · rename_i hw
    rw [if_neg hw]
    exact fin undef w (by rw [hS]) hw0

/-- Whatever order is picked, till the first m operations are done; then F. -/
def anyL (P : Program) (md : Region.Mode) (ops : Array Oper) (C : World → Prop) (kinds : Nat → Kd) (m : Nat) (F : Act → (World → Prop) → Prop) : Nat → Array Bool → Act → (World → Prop) → Prop
  | 0, listed, a, G => (∀ k, k < m → listed.getD k true = true) ∧ (∀ k, m ≤ k → k < ops.size → listed.getD k true = false) ∧ F a G
  | fuel + 1, listed, a, G => Region.ready md ops listed ≠ [] ∧ ∀ i ∈ Region.ready md ops listed, ∃ o, ops[i]? = some o ∧ Step P ops C (kinds i) o (anyL P md ops C kinds m F fuel (listed.setIfInBounds i true)) a G

theorem anyL_anti {kinds : Nat → Kd} {m : Nat} {F : Act → (World → Prop) → Prop} (hF : ∀ a G G', (∀ w, G' w → G w) → F a G → F a G') :
    ∀ (fuel : Nat) (listed : Array Bool) (a : Act) (G G' : World → Prop), (∀ w, G' w → G w) → anyL P md ops C kinds m F fuel listed a G → anyL P md ops C kinds m F fuel listed a G' := by
  intro fuel
  induction fuel with
  | zero => intro listed a G G' hs h; exact ⟨h.1, h.2.1, hF _ _ _ hs h.2.2⟩
  | succ fuel ih =>
    intro listed a G G' hs h
    refine ⟨h.1, fun i hi => ?_⟩
    obtain ⟨o, ho, S, hS, hn⟩ := h.2 i hi
    exact ⟨o, ho, S, hS, fun v hv => ih _ _ _ _ (fun w hw => ⟨hs w hw.1, hw.2⟩) (hn v hv)⟩

/-- What is listed has all that it waits for listed ahead of it. -/
def Closed (md : Region.Mode) (ops : Array Oper) (listed : Array Bool) : Prop :=
  ∀ i o, ops[i]? = some o → listed.getD i false = true → ∀ e ∈ o.after, Region.binds md e = true → listed.getD e.on false = true
theorem Closed.set {listed : Array Bool} (h : Closed md ops listed) {i : Nat} (hr : i ∈ Region.ready md ops listed) : Closed md ops (listed.setIfInBounds i true) := by
  intro j o ho hj e he hb
  refine getD_set_true ?_
  by_cases hij : i = j
  · subst hij
    obtain ⟨_, o', ho', hall⟩ := mem_ready.1 hr
    rw [ho] at ho'
    cases ho'
    exact hall e he hb
  · rw [getD_set_ne false hij] at hj
    exact h j o ho hj e he hb
theorem Closed.none (n : Nat) : Closed md ops (Array.replicate n false) := by
  intro i o _ h
  exfalso
  rcases Nat.lt_or_ge i n with h' | h'
  · simp [h'] at h
  · simp [Array.getElem?_eq_none (xs := Array.replicate n false) (i := i) (by simpa using h')] at h

/-- Operation i waits for k, be it by others. -/
def waits (md : Region.Mode) (ops : Array Oper) : Nat → Nat → Nat → Bool
  | 0, _, _ => false
  | n + 1, i, k => match ops[i]? with
    | some o => (o.after.any fun e => Region.binds md e && e.on == k) || o.after.any fun e => Region.binds md e && waits md ops n e.on k
    | none => false
theorem waits_spec {listed : Array Bool} (hc : Closed md ops listed) {k : Nat} : ∀ (n i : Nat), waits md ops n i k = true → (∀ o, ops[i]? = some o → ∀ e ∈ o.after, Region.binds md e = true → listed.getD e.on false = true) → listed.getD k false = true
  | 0, _, h, _ => by cases h
  | n + 1, i, h, hp => by
    unfold waits at h
    cases ho : ops[i]? with
    | none => rw [ho] at h; cases h
    | some o =>
      rw [ho] at h
      simp only [Bool.or_eq_true] at h
      rcases h with h | h
      · obtain ⟨e, he, hb⟩ := Array.any_eq_true'.1 h
        simp only [Bool.and_eq_true, beq_iff_eq] at hb
        have := hp o ho e he hb.1
        rw [hb.2] at this
        exact this
      · obtain ⟨e, he, hb⟩ := Array.any_eq_true'.1 h
        simp only [Bool.and_eq_true] at hb
        exact waits_spec hc n e.on hb.2 fun o' ho' e' he' hb' => hc e.on o' ho' (hp o ho e he hb.1) e' he' hb'

/-- Each operation from number m on waits for all before number m and for the one right before it, be it by others. -/
def tailWaits (md : Region.Mode) (ops : Array Oper) (m : Nat) : Bool :=
  decide (m ≤ ops.size) && (List.range ops.size).all fun i => decide (i < m) || match ops[i]? with
    | some _ => (List.range i).all fun k => (decide (m ≤ k) && decide (k + 1 ≠ i)) || waits md ops 5 i k
    | none => false

theorem tailWaits_spec {m : Nat} (h : tailWaits md ops m = true) {listed : Array Bool} (hc : Closed md ops listed) {i : Nat} (hm : m ≤ i) (hr : i ∈ Region.ready md ops listed) : ∀ k, k < i → (k < m ∨ k + 1 = i) → listed.getD k false = true := by
  intro k hk hkm
  simp only [tailWaits, Bool.and_eq_true] at h
  obtain ⟨_, o, ho, hall⟩ := mem_ready.1 hr
  have hsz := (Array.getElem?_eq_some_iff.1 ho).1
  have h1 := List.all_eq_true.1 h.2 i (List.mem_range.2 hsz)
  have hd : decide (i < m) = false := by simp; omega
  rw [hd, ho, Bool.false_or] at h1
  have h2 := List.all_eq_true.1 h1 k (List.mem_range.2 hk)
  have hd2 : (decide (m ≤ k) && decide (k + 1 ≠ i)) = false := by
    rcases hkm with h | h
    · simp; omega
    · simp [h]
  rw [hd2, Bool.false_or] at h2
  refine waits_spec hc 5 i h2 fun o' ho' => ?_
  rw [ho] at ho'
  cases ho'
  exact hall

/-- An operation that may come up now may be taken first. -/
theorem anyL_first {kinds : Nat → Kd} {m : Nat} {F : Act → (World → Prop) → Prop} (hF : ∀ a G G', (∀ w, G' w → G w) → F a G → F a G') {w0 : World} (hC : C w0) (hL : tailWaits md ops m = true) {i : Nat} (him : i < m) {oi : Oper} (hi : ops[i]? = some oi)
    (hsel : ∀ (j : Nat) (o : Oper) cs b, ops[j]? = some o → o.op ≠ .select cs b) {S : Value → World → Prop} :
    ∀ (fuel : Nat) (listed : Array Bool) (a : Act) (G : World → Prop), Closed md ops listed →
      (∀ j oj, ops[j]? = some oj → j ≠ i → listed.getD j true = false → (∀ e ∈ oj.after, Region.binds md e = true → e.on ≠ i) → oi.apart ops oj = true) →
      i ∈ Region.ready md ops listed → Gives P ops C (kinds i) oi a S →
      (∀ v, (∃ w, S v w) → anyL P md ops C kinds m F fuel (listed.setIfInBounds i true) (a.put oi.dst v) (fun w => G w ∧ S v w)) → anyL P md ops C kinds m F (fuel + 1) listed a G := by
  have small : ∀ (listed : Array Bool) (j : Nat), Closed md ops listed → i ∈ Region.ready md ops listed → j ∈ Region.ready md ops listed → j < m := by
    intro listed j hc hr hj
    rcases Nat.lt_or_ge j m with h | h
    · exact h
    · have h3 := getD_true_of (tailWaits_spec hL hc h hj i (by omega) (.inl him))
      rw [(mem_ready.1 hr).1] at h3
      cases h3
  intro fuel
  induction fuel with
  | zero =>
    intro listed a G hc _ hr hG H
    refine ⟨fun h => (by rw [h] at hr; cases hr), fun j hj => ?_⟩
    by_cases hji : j = i
    · subst hji; exact ⟨oi, hi, S, hG, H⟩
    · obtain ⟨v, w, hv⟩ := hG.ex hC
      have h1 := (H v ⟨w, hv⟩).1 j (small listed j hc hr hj)
      rw [getD_set_ne true (Ne.symm hji), (mem_ready.1 hj).1] at h1
      cases h1
  | succ fuel ih =>
    intro listed a G hc hfree hr hG H
    refine ⟨fun h => (by rw [h] at hr; cases hr), fun j hj => ?_⟩
    by_cases hji : j = i
    · subst hji; exact ⟨oi, hi, S, hG, H⟩
    · obtain ⟨hjun, oj, hoj, hall⟩ := mem_ready.1 hj
      have hnot : ∀ e ∈ oj.after, Region.binds md e = true → e.on ≠ i := by
        intro e he hb heq
        have h1 := getD_true_of (hall e he hb)
        rw [heq, (mem_ready.1 hr).1] at h1
        cases h1
      obtain ⟨h1, h2, h3⟩ := Oper.apart_spec (hfree j oj hoj hji hjun hnot)
      have hsi := fun cs b => hsel i oi cs b hi
      have hsj := fun cs b => hsel j oj cs b hoj
      have got : ∀ v, (∃ w, S v w) → ∃ T, Gives P ops C (kinds j) oj a T ∧ ∀ u, (∃ w, T u w) → anyL P md ops C kinds m F fuel ((listed.setIfInBounds i true).setIfInBounds j true) ((a.put oi.dst v).put oj.dst u) (fun w => (G w ∧ S v w) ∧ T u w) := by
        intro v hv
        obtain ⟨o', ho', T, hT, hn⟩ := (H v hv).2 j (ready_mono hj hji)
        rw [hoj] at ho'
        cases ho'
        exact ⟨T, hT.move (execOp_put oj hsj a oi.dst v h1).symm (wanted_put oj a oi.dst v h1).symm, hn⟩
      obtain ⟨v0, w1, hv0⟩ := hG.ex hC
      obtain ⟨T, hT, _⟩ := got v0 ⟨w1, hv0⟩
      refine ⟨oj, hoj, T, hT, fun u hu => ih (listed.setIfInBounds j true) (a.put oj.dst u) _ (hc.set hj) ?_ (ready_mono hr (Ne.symm hji)) (hG.move (execOp_put oi hsi a oj.dst u h3) (wanted_put oi a oj.dst u h3)) fun v hv => ?_⟩
      · intro k ok hk hki hun hno
        refine hfree k ok hk hki ?_ hno
        by_cases hjk : j = k
        · subst hjk; exact hjun
        · rw [getD_set_ne true hjk] at hun; exact hun
      · obtain ⟨T', hT', hn⟩ := got v hv
        have e := Gives.one hC hT hT'
        subst e
        have := hn u hu
        rw [Array.setIfInBounds_comm _ _ (Ne.symm hji)] at this
        rw [← Act.put_comm a v u h2]
        exact anyL_anti hF _ _ _ _ _ (fun w hw => ⟨⟨hw.1.1, hw.2⟩, hw.1.2⟩) this

/-- The rest, each operation behind all before it. -/
theorem wpAny_tail {m : Nat} (hL : tailWaits md ops m = true) : ∀ (l : List Oper) (k : Nat) (listed : Array Bool) (a : Act) (w : World), Closed md ops listed → m ≤ k → (∀ j, l[j]? = ops[k + j]?) → k + l.length = ops.size →
    (∀ j, j < k → listed.getD j true = true) → (∀ j, k ≤ j → j < ops.size → listed.getD j true = false) → Region.lexFrom md ops l.length k listed = true → wpList P ops Q l a w → wpAny P md ops Q l.length listed a w
  | [], k, listed, a, w, hc, hm, hl, hn, hd, hu, hB, h => ⟨by simpa [Region.lexFrom] using hB, h⟩
  | o :: l, k, listed, a, w, hc, hm, hl, hn, hd, hu, hB, h => by
    have h0 : ops[k]? = some o := by simpa using (hl 0).symm
    simp only [List.length_cons, Region.lexFrom, Bool.and_eq_true] at hB
    obtain ⟨⟨hr, hf⟩, hB'⟩ := hB
    have hr' : k ∈ Region.ready md ops listed := by simpa using hr
    have hsz := lt_of_ready hr'
    have hlsz : k < listed.size := by
      rcases Nat.lt_or_ge k listed.size with h' | h'
      · exact h'
      · have := hu k (Nat.le_refl _) hsz
        simp [Array.getElem?_eq_none h'] at this
    refine ⟨fun h1 => (by rw [h1] at hr'; cases hr'), fun i hi => ?_⟩
    have hik : i = k := by
      rcases Nat.lt_trichotomy i k with h' | h' | h'
      · have := hd i h'; rw [(mem_ready.1 hi).1] at this; cases this
      · exact h'
      · have hi2 := lt_of_ready hi
        have := getD_true_of (tailWaits_spec hL hc (by omega) hi (i - 1) (by omega) (.inr (by omega)))
        rw [hu (i - 1) (by omega) (by omega)] at this
        cases this
    subst hik
    have again : ∀ a w, wpList P ops Q l a w → wpAny P md ops Q l.length (listed.setIfInBounds i true) a w := fun a w hh =>
      wpAny_tail hL l (i + 1) _ a w (hc.set hi) (by omega) (fun j => by have := hl (j + 1); simpa [Nat.add_assoc, Nat.add_comm 1 j] using this) (by simp at hn; omega)
        (fun j hj => by
          by_cases hji : i = j
          · subst hji; simp [hlsz]
          · rw [getD_set_ne true hji]; exact hd j (by omega))
        (fun j hj hjs => by rw [getD_set_ne true (by omega)]; exact hu j (by omega) hjs) hB' hh
    unfold wpList at h
    unfold wpOp
    rw [h0]
    dsimp only
    split at h
    · rename_i hwd
      rw [if_pos hwd]
      exact h.imp (Oper.wp_mono again) id
    · rename_i hwd
      rw [if_neg hwd]
      exact again _ _ h

theorem wpAny_of_L {kinds : Nat → Kd} {m : Nat} {l : List Oper} (hL : tailWaits md ops m = true) (hl : ∀ j, l[j]? = ops[m + j]?) (hn : m + l.length = ops.size) (hB : ∀ listed : Array Bool, listed.size = ops.size → (∀ k, k < m → listed.getD k true = true) → (∀ k, m ≤ k → k < ops.size → listed.getD k true = false) → Region.lexFrom md ops l.length m listed = true) :
    ∀ (fuel : Nat) (listed : Array Bool) (a : Act) (G : World → Prop) (w : World), Closed md ops listed → listed.size = ops.size → (∀ w, G w → C w) → Stable G → G w → anyL P md ops C kinds m (fun a G => ∀ w, G w → wpList P ops Q l a w) fuel listed a G → wpAny P md ops Q (l.length + fuel) listed a w := by
  intro fuel
  induction fuel with
  | zero =>
    intro listed a G w hc hsz hC hG hw h
    exact wpAny_tail hL l m listed a w hc (Nat.le_refl _) hl hn h.1 h.2.1 (hB listed hsz h.1 h.2.1) (h.2.2 w hw)
  | succ fuel ih =>
    intro listed a G w hc hsz hC hG hw h
    refine ⟨fun h0 => absurd h0 h.1, fun i hi => ?_⟩
    obtain ⟨o, ho, hs⟩ := h.2 i hi
    exact wpOp_of_step ho hC hG hw (fun a' G' w' hC' hG' hw' hk => ih _ a' G' w' (hc.set hi) (by simp [hsz]) hC' hG' hw' hk) hs

/-- The walk in the order of the text, a kind beside each operation; what is behind the first m is left to the plain walk. -/
def wpLoose (P : Program) (ops : Array Oper) (C : World → Prop) (Q : Exit → Act → World → Prop) : List Kd → Nat → List Oper → Act → (World → Prop) → Prop
  | _, 0, l, a, G => ∀ w, G w → wpList P ops Q l a w
  | _, _ + 1, [], _, _ => False
  | kds, m + 1, o :: l, a, G => Step P ops C (kds.headD none) o (wpLoose P ops C Q kds.tail m l) a G

theorem wpLoose_anti : ∀ (m : Nat) (kds : List Kd) (l : List Oper) (a : Act) (G G' : World → Prop), (∀ w, G' w → G w) → wpLoose P ops C Q kds m l a G → wpLoose P ops C Q kds m l a G'
  | 0, kds, l, a, G, G', hs, h => fun w hw => h w (hs w hw)
  | _ + 1, _, [], _, _, _, _, h => h
  | m + 1, kds, o :: l, a, G, G', hs, h => by
    obtain ⟨S, hS, hn⟩ := h
    exact ⟨S, hS, fun v hv => wpLoose_anti m _ _ _ _ _ (fun w hw => ⟨hs w hw.1, hw.2⟩) (hn v hv)⟩

theorem getD_ext {x y : Array Bool} (hs : x.size = y.size) (h : ∀ k, k < x.size → x.getD k true = y.getD k true) : x = y := by
  refine Array.ext hs fun k h1 h2 => ?_
  have := h k h1
  simpa [h1, h2] using this

theorem anyL_lex {m : Nat} {w0 : World} (hC : C w0) (hs : Region.noSelect ops = true) (hL : tailWaits md ops m = true) {tl : List Oper} {kinds : Nat → Kd} (hlt : tl.length = ops.size - m) (hm : m ≤ ops.size) (htl : ∀ j, tl[j]? = ops[m + j]?) :
    ∀ (n : Nat) (l : List Oper) (kds : List Kd) (k : Nat) (listed : Array Bool) (a : Act) (G : World → Prop), Closed md ops listed → (∀ j, l[j]? = ops[k + j]?) → (∀ j, kinds (k + j) = kds.getD j none) → k + n = m → k + l.length = ops.size → listed.size = ops.size →
      (∀ j, j < k → listed.getD j true = true) → (∀ j, k ≤ j → j < ops.size → listed.getD j true = false) → Region.lexFrom md ops l.length k listed = true → wpLoose P ops C Q kds n l a G →
      anyL P md ops C kinds m (fun a G => ∀ w, G w → wpList P ops Q tl a w) n listed a G
  | 0, l, kds, k, listed, a, G, hc, hl, hk, hn, hll, hsz, hd, hu, hB, h => by
    have hkm : k = m := by omega
    subst hkm
    have : l = tl := by
      refine List.ext_getElem? fun j => ?_
      rw [hl j, htl j]
    subst this
    exact ⟨hd, hu, h⟩
  | n + 1, [], kds, k, listed, a, G, hc, hl, hk, hn, hll, hsz, hd, hu, hB, h => h.elim
  | n + 1, o :: l, kds, k, listed, a, G, hc, hl, hk, hn, hll, hsz, hd, hu, hB, h => by
    have h0 : ops[k]? = some o := by simpa using (hl 0).symm
    simp only [List.length_cons, Region.lexFrom, Bool.and_eq_true] at hB
    obtain ⟨⟨hr, hf⟩, hB'⟩ := hB
    obtain ⟨S, hS, hK⟩ := h
    have e0 : kinds k = kds.headD none := by have := hk 0; cases kds <;> simpa using this
    rw [← e0] at hS
    have hr' : k ∈ Region.ready md ops listed := by simpa using hr
    have hlt' := lt_of_ready hr'
    refine anyL_first (fun a G G' hs h w hw => h w (hs w hw)) hC hL (by omega) h0 (Region.noSelect_spec hs) _ listed a G hc (Region.free_spec h0 hf) hr' hS fun v hv => ?_
    refine anyL_lex hC hs hL hlt hm htl n l kds.tail (k + 1) _ _ _ (hc.set hr') (fun j => ?_) (fun j => ?_) (by omega) (by simp at hll; omega) (by simp [hsz]) (fun j hj => ?_) (fun j hj hjs => ?_) hB' (hK v hv)
    · have := hl (j + 1); simpa [Nat.add_assoc, Nat.add_comm 1 j] using this
    · have := hk (j + 1)
      rw [Nat.add_assoc, Nat.add_comm 1 j, this]
      cases kds <;> simp
    · by_cases hjk : k = j
      · subst hjk
        simp [hsz, hlt']
      · rw [getD_set_ne true hjk]
        exact hd j (by omega)
    · rw [getD_set_ne true (by omega)]; exact hu j (by omega) hjs

theorem lexFrom_at : ∀ (n k : Nat) (listed : Array Bool) (len : Nat), listed.size = ops.size → n ≤ len → Region.lexFrom md ops len k listed = true → (∀ j, j < k → listed.getD j true = true) → (∀ j, k ≤ j → j < ops.size → listed.getD j true = false) → k + len = ops.size →
    ∀ listed' : Array Bool, listed'.size = ops.size → (∀ j, j < k + n → listed'.getD j true = true) → (∀ j, k + n ≤ j → j < ops.size → listed'.getD j true = false) → Region.lexFrom md ops (len - n) (k + n) listed' = true
  | 0, k, listed, len, hsz, hle, hB, hd, hu, hk, listed', hsz', hd', hu' => by
    have : listed' = listed := by
      refine getD_ext (hsz'.trans hsz.symm) fun j hj => ?_
      rcases Nat.lt_or_ge j k with h | h
      · rw [hd j h, hd' j (by omega)]
      · rw [hu j h (by omega), hu' j (by omega) (by omega)]
    subst this
    simpa using hB
  | n + 1, k, listed, 0, hsz, hle, hB, hd, hu, hk, listed', hsz', hd', hu' => by omega
  | n + 1, k, listed, len + 1, hsz, hle, hB, hd, hu, hk, listed', hsz', hd', hu' => by
    simp only [Region.lexFrom, Bool.and_eq_true] at hB
    have hks : k < listed.size := by omega
    have := lexFrom_at n (k + 1) (listed.setIfInBounds k true) len (by simp [hsz]) (by omega) hB.2 (fun j hj => by
        by_cases hjk : k = j
        · subst hjk; simp [hks]
        · rw [getD_set_ne true hjk]; exact hd j (by omega)) (fun j hj hjs => by rw [getD_set_ne true (by omega)]; exact hu j (by omega) hjs) (by omega) listed' hsz' (fun j hj => hd' j (by omega)) (fun j hj hjs => hu' j (by omega) hjs)
    rw [show k + (n + 1) = k + 1 + n by omega, show len + 1 - (n + 1) = len - n by omega]
    exact this

/-- The law: a region that draws, written out; its first m operations are walked so. -/
theorem wp_region_loose {id : Nat} {a : Act} {w : World} {l : List Oper} (W : World) (kds : List Kd) (m : Nat) (hm : P.follows .mixedOrders = true) (hB : Region.lexB .any l.toArray = true)
    (hL : tailWaits .any l.toArray m = true) (hW : Cl W w) (h : wpLoose P l.toArray (Cl W) Q kds m l a (Cl W)) : (Code.region id l.toArray true).wp P Q a w := by
  simp only [Region.lexB, Bool.and_eq_true] at hB
  have hms : m ≤ l.toArray.size := by have := hL; simp only [tailWaits, Bool.and_eq_true] at this; exact of_decide_eq_true this.1
  have hC : Cl W w.drew := Below.drew hW
  refine wp_region_any hm ?_
  have e1 : ∀ j, (Array.replicate l.toArray.size false).getD j true = decide (l.toArray.size ≤ j) := by
    intro j
    rcases Nat.lt_or_ge j l.toArray.size with h' | h'
    · have h2 : ¬ l.toArray.size ≤ j := by omega
      rw [decide_eq_false h2]
      simp at h'
      simp [h']
    · rw [decide_eq_true h']
      simp at h'
      simp [h']
  have hd0 : ∀ j, j < 0 → (Array.replicate l.toArray.size false).getD j true = true := fun j hj => absurd hj (Nat.not_lt_zero j)
  have hu0 : ∀ j, 0 ≤ j → j < l.toArray.size → (Array.replicate l.toArray.size false).getD j true = false := fun j _ hj => by rw [e1 j]; exact decide_eq_false (by omega)
  have htl : ∀ j, (l.drop m)[j]? = l.toArray[m + j]? := fun j => by simp
  have hlen : (l.drop m).length = l.toArray.size - m := by simp
  have h1 := anyL_lex (P := P) (Q := Q) (md := .any) (kinds := fun j => kds.getD j none) hC hB.1 hL (tl := l.drop m) hlen hms htl m l kds 0 (Array.replicate l.toArray.size false) a (Cl W) (Closed.none _) (by simp) (by simp) (by omega) (by simp) (by simp) hd0 hu0 (by simpa using hB.2) h
  have h2 := wpAny_of_L (P := P) (Q := Q) (C := Cl W) hL htl (by rw [hlen]; omega) (fun listed hsz hd hu => by
      have := lexFrom_at (md := .any) m 0 (Array.replicate l.toArray.size false) l.toArray.size (by simp) hms (by simpa using hB.2) hd0 hu0 (by omega) listed hsz (by simpa using hd) (by simpa using hu)
      rw [hlen]
      simpa using this) m _ _ _ _ (Closed.none _) (by simp) (fun _ h => h) (Stable.cl W) hC h1
  have e : (l.drop m).length + m = l.toArray.size := by rw [hlen]; omega
  rw [e] at h2
  exact h2

/-! The steps -/
/-- An operation that gives one value. -/
theorem one {kds : List Kd} {m : Nat} {o : Oper} {l : List Oper} {a : Act} {G : World → Prop} (v : Value) (hw : Region.wanted o (yielded ops a.tmps) = true)
    (h : ∀ w, C w → (execOp a.eval o).run P w = .ok (.value v) w) (hK : ∀ K : Act → Prop, Hid (∀ a, wpLoose P ops C Q kds m l a G → K a) → K (a.put o.dst v)) : wpLoose P ops C Q (none :: kds) (m + 1) (o :: l) a G :=
  ⟨fun u _ => u = v, by unfold Gives; rw [if_pos hw]; exact ⟨v, rfl, h⟩, fun u ⟨_, hu⟩ => by subst hu; exact wpLoose_anti _ _ _ _ _ _ (fun _ h => h.1) (hK _ fun _ h => h)⟩
/-- An operation whose value is told up to V. -/
theorem any {V : Value → Prop} {kds : List Kd} {m : Nat} {o : Oper} {l : List Oper} {a : Act} {G : World → Prop} (hw : Region.wanted o (yielded ops a.tmps) = true)
    (h : ∀ w, C w → Upon P w (fun v _ => V v) ((execOp a.eval o).run P w)) (hK : ∀ K : Act → Prop, Hid (∀ a, wpLoose P ops C Q kds m l a G → K a) → ∀ v, V v → K (a.put o.dst v)) : wpLoose P ops C Q (some (fun v _ => V v) :: kds) (m + 1) (o :: l) a G :=
  ⟨fun v _ => V v, by unfold Gives; rw [if_pos hw]; exact ⟨rfl, fun _ => Stable.const _, h⟩, fun u ⟨_, hu⟩ => wpLoose_anti _ _ _ _ _ _ (fun _ h => h.1) (hK _ (fun _ h => h) u hu)⟩
/-- An operation that is not wanted. -/
theorem skip {kd : Kd} {kds : List Kd} {m : Nat} {o : Oper} {l : List Oper} {a : Act} {G : World → Prop} (hw : Region.wanted o (yielded ops a.tmps) = false)
    (hK : ∀ K : Act → Prop, Hid (∀ a, wpLoose P ops C Q kds m l a G → K a) → K (a.put o.dst undef)) : wpLoose P ops C Q (kd :: kds) (m + 1) (o :: l) a G :=
  ⟨fun u _ => u = undef, by unfold Gives; rw [if_neg (by rw [hw]; exact Bool.false_ne_true)], fun u ⟨_, hu⟩ => by subst hu; exact wpLoose_anti _ _ _ _ _ _ (fun _ h => h.1) (hK _ fun _ h => h)⟩
/-- A new block. -/
theorem new {W : World} {kds : List Kd} {m : Nat} {o : Oper} {l : List Oper} {a : Act} {G : World → Prop} (ob : Obj) (hw : Region.wanted o (yielded ops a.tmps) = true)
    (h : ∀ w, Cl W w → (execOp a.eval o).run P w = .ok (.value (.pointer (some ⟨w.heap.size, 0, none⟩))) (w.alloc ob))
    (hK : ∀ K : Act → Nat → Prop, Hid (∀ a b, wpLoose P ops (Cl W) Q kds m l a (fun w => G w ∧ W.heap.size ≤ b ∧ w.heap[b]? = some ob) → K a b) → ∀ b, W.heap.size ≤ b → K (a.put o.dst (.pointer (some ⟨b, 0, none⟩))) b) :
    wpLoose P ops (Cl W) Q (some (fun v w => ∃ b, v = .pointer (some ⟨b, 0, none⟩) ∧ W.heap.size ≤ b ∧ w.heap[b]? = some ob) :: kds) (m + 1) (o :: l) a G := by
  refine ⟨fun v w => ∃ b, v = .pointer (some ⟨b, 0, none⟩) ∧ W.heap.size ≤ b ∧ w.heap[b]? = some ob, ?_, ?_⟩
  · unfold Gives
    rw [if_pos hw]
    refine ⟨rfl, fun v w w' hb ⟨b, hv, h'⟩ => ⟨b, hv, Stable.block b ob W w w' hb h'⟩, fun w hc => ?_⟩
    rw [h w hc]
    refine ⟨⟨w.heap.size, rfl, hc.size, by show (w.heap.push ob)[w.heap.size]? = _; simp⟩, Below.alloc (Below.refl _ _) (Nat.le_refl _) _⟩
  · rintro u ⟨_, b, rfl, hb, _⟩
    refine wpLoose_anti _ _ _ _ _ _ ?_ (hK (fun a b => wpLoose P ops (Cl W) Q kds m l a (fun w => G w ∧ W.heap.size ≤ b ∧ w.heap[b]? = some ob)) (fun _ _ h => h) b hb)
    rintro w ⟨hg, b', e, h'⟩
    cases e
    exact ⟨hg, h'⟩

/-- What is told of every world of the region, laid once. -/
theorem facts {W : World} {F : World → Prop} {kds : List Kd} {m : Nat} {l : List Oper} {a : Act} {G : World → Prop} (hF : ∀ w', Cl W w' → F w') (h : Hid (∀ w', Cl W w' → F w') → wpLoose P ops (Cl W) Q kds m l a G) : wpLoose P ops (Cl W) Q kds m l a G := h hF
theorem c1 {W w' : World} (h : Cl W w') (b i : Nat) {x : Value} (hx : W.cell? ⟨b, i, none⟩ = some x) (hb : b < W.heap.size) : w'.cell? ⟨b, i, none⟩ = some x := (h.cell (p := ⟨b, i, none⟩) hb).trans hx
theorem c3 {W w' : World} (h : Cl W w') (b i j k : Nat) {x y z : Value} (hx : W.cell? ⟨b, i, none⟩ = some x) (hy : W.cell? ⟨b, j, none⟩ = some y) (hz : W.cell? ⟨b, k, none⟩ = some z) (hb : b < W.heap.size) :
    w'.cell? ⟨b, i, none⟩ = some x ∧ w'.cell? ⟨b, j, none⟩ = some y ∧ w'.cell? ⟨b, k, none⟩ = some z := ⟨c1 h b i hx hb, c1 h b j hy hb, c1 h b k hz hb⟩
theorem f3 {W w' : World} (h : Cl W w') (b i j k : Nat) (hx : W.frozen? ⟨b, i, none⟩ = false) (hy : W.frozen? ⟨b, j, none⟩ = false) (hz : W.frozen? ⟨b, k, none⟩ = false) (hb : b < W.heap.size) :
    w'.frozen? ⟨b, i, none⟩ = false ∧ w'.frozen? ⟨b, j, none⟩ = false ∧ w'.frozen? ⟨b, k, none⟩ = false := ⟨(h.frozen (p := ⟨b, i, none⟩) hb).trans hx, (h.frozen (p := ⟨b, j, none⟩) hb).trans hy, (h.frozen (p := ⟨b, k, none⟩) hb).trans hz⟩

theorem ret {f : FuncId} {args : Array Value} {V : Value → Prop} {w : World} (h : Ret P f args w V) : Upon P w (fun v _ => V v) (.ok (.enter f args) w) :=
  Calls.mono h fun _ _ ⟨v, he, hV, hb⟩ => ⟨v, he, hV, hb⟩
theorem fbin {V : Value → Prop} {op : BinOp} {t : TypeId} {x y : Nat} {w : World} (hop : op = .add ∨ op = .sub ∨ op = .mul ∨ op = .quo)
    (h : ∀ r, Eqv r (Fl.fbin op x y) → V (.float .f64 r)) :
    Upon P w (fun v _ => V v) ((Sem.run P (binOp op t (.float .f64 x) (.float .f64 y)) w).andThen fun a w' => Result.ok (Next.value a) w') := by
  obtain ⟨r, n, e, hr⟩ := run_fbin (P := P) op hop t x y w
  rw [e]
  exact ⟨h r hr, below_dr (Below.refl _ _) n⟩
theorem add {t : TypeId} {x y X Y : Nat} {w : World} (hx : Sm x X) (hy : Sm y Y) :
    Upon P w (fun v _ => isF (fadd X Y) v) ((Sem.run P (binOp .add t (.float .f64 x) (.float .f64 y)) w).andThen fun a w' => Result.ok (Next.value a) w') :=
  fbin (.inl rfl) fun r hr => ⟨r, rfl, hr.to (Sm.of_eq (fadd_congr hx hy))⟩
theorem sub {t : TypeId} {x y X Y : Nat} {w : World} (hx : Sm x X) (hy : Sm y Y) :
    Upon P w (fun v _ => isF (fsub X Y) v) ((Sem.run P (binOp .sub t (.float .f64 x) (.float .f64 y)) w).andThen fun a w' => Result.ok (Next.value a) w') :=
  fbin (.inr (.inl rfl)) fun r hr => ⟨r, rfl, hr.to (Sm.of_eq (fsub_congr hx hy))⟩
theorem mul {t : TypeId} {x y X Y : Nat} {w : World} (hx : Sm x X) (hy : Sm y Y) :
    Upon P w (fun v _ => isF (fmul X Y) v) ((Sem.run P (binOp .mul t (.float .f64 x) (.float .f64 y)) w).andThen fun a w' => Result.ok (Next.value a) w') :=
  fbin (.inr (.inr (.inl rfl))) fun r hr => ⟨r, rfl, hr.to (Sm.of_eq (fmul_congr hx hy))⟩
theorem div {t : TypeId} {x y X Y : Nat} {w : World} (hx : Sm x X) (hy : Sm y Y) :
    Upon P w (fun v _ => isF (fdiv X Y) v) ((Sem.run P (binOp .quo t (.float .f64 x) (.float .f64 y)) w).andThen fun a w' => Result.ok (Next.value a) w') :=
  fbin (.inr (.inr (.inr rfl))) fun r hr => ⟨r, rfl, hr.to (Sm.of_eq (fdiv_congr hx hy))⟩
end

theorem _root_.Go.Proofs.YtijoaklknpkdoaaGreat.Fl.Ret.of_same {P : Program} {f : FuncId} {args : Array Value} {w : World} {v : Value} (h : Calls P f args w fun e w' => e = .returned v ∧ w' = w) : Ret P f args w (fun u => u = v) :=
  Calls.mono h fun _ _ ⟨he, hw⟩ => ⟨v, he, rfl, hw ▸ Below.refl _ _⟩

/-- A block that is known whole. -/
theorem blk {w : World} {b : Nat} {vs : Array Value} {t : TypeId} (h : w.heap[b]? = some (.cells vs t)) : (∀ i, w.cell? ⟨b, i, none⟩ = vs[i]?) ∧ (∀ i, w.frozen? ⟨b, i, none⟩ = false) := by
  refine ⟨fun i => ?_, fun i => ?_⟩
  · unfold World.cell?; simp [h]
  · unfold World.frozen?; simp [h]
/-- All old cells and marks read as before: two rules for the walk. -/
theorem bcell {W w1 : World} (hb : Below W.heap.size W w1) : (∀ b o, b < W.heap.size → w1.cell? ⟨b, o, none⟩ = W.cell? ⟨b, o, none⟩) ∧ (∀ b o, b < W.heap.size → w1.frozen? ⟨b, o, none⟩ = W.frozen? ⟨b, o, none⟩) :=
  ⟨fun b o h => hb.cell (p := ⟨b, o, none⟩) h, fun b o h => hb.frozen (p := ⟨b, o, none⟩) h⟩
end Go.Proofs.YtijoaklknpkdoaaGreat.Lp

namespace Go.Proofs.YtijoaklknpkdoaaGreat.Lp
open Go.RowKit Fl

/-- Block b holds these cells. -/
def Bk (w : World) (b : Nat) (vs : Array Value) (t : TypeId) : Prop := w.heap[b]? = some (.cells vs t)
section
variable {w w' : World} {b : Nat} {vs : Array Value} {t : TypeId}
theorem Bk.cell (h : Bk w b vs t) : ∀ i, w.cell? ⟨b, i, none⟩ = vs[i]? := (blk h).1
theorem Bk.frz (h : Bk w b vs t) : ∀ i, w.frozen? ⟨b, i, none⟩ = false := (blk h).2
theorem Bk.lt (h : Bk w b vs t) : b < w.heap.size := (Array.getElem?_eq_some_iff.1 h).1
theorem Bk.keep (h : Bk w b vs t) (hb : Below w.heap.size w w') : Bk w' b vs t := (hb.block b h.lt).trans h
theorem Bk.al (w : World) (vs : Array Value) (t : TypeId) : Bk (w.alloc (.cells vs t)) w.heap.size vs t := by show (w.heap.push _)[w.heap.size]? = _; simp
theorem Bk.al1 (w : World) (o : Obj) (vs : Array Value) (t : TypeId) : Bk ((w.alloc o).alloc (.cells vs t)) (w.heap.size + 1) vs t := by have := Bk.al (w.alloc o) vs t; simpa using this
theorem Bk.al2 (w : World) (o o2 : Obj) (vs : Array Value) (t : TypeId) : Bk (((w.alloc o).alloc o2).alloc (.cells vs t)) (w.heap.size + 1 + 1) vs t := by have := Bk.al ((w.alloc o).alloc o2) vs t; simpa using this
theorem Bk.al3 (w : World) (o o2 o3 : Obj) (vs : Array Value) (t : TypeId) : Bk ((((w.alloc o).alloc o2).alloc o3).alloc (.cells vs t)) (w.heap.size + 1 + 1 + 1) vs t := by have := Bk.al (((w.alloc o).alloc o2).alloc o3) vs t; simpa using this
theorem Bk.alo (h : Bk w b vs t) (o : Obj) : Bk (w.alloc o) b vs t := h.keep ((Below.refl _ _).alloc (Nat.le_refl _) _)
theorem Bk.dr (h : Bk w b vs t) (n : Nat) : Bk (w.drewN n) b vs t := h
theorem Bk.drew (h : Bk w b vs t) : Bk w.drew b vs t := h
theorem Bk.set (h : Bk w b vs t) (i : Nat) (u : Value) : Bk (w.setCell ⟨b, i, none⟩ u) b (vs.setIfInBounds i u) t := by
  unfold Bk at *
  show (w.heap.modify b _)[b]? = _
  rw [Array.getElem?_modify, if_pos rfl, h]
  rfl
theorem Bk.seto (h : Bk w b vs t) {p : Addr} (hne : b ≠ p.block) (u : Value) : Bk (w.setCell p u) b vs t := (Below.heap_setCell w p u b hne).trans h
theorem Bk.set3 {y0 y1 y2 x0 x1 x2 : Value} (h : Bk w b #[y0, y1, y2] t) : Bk (((w.setCell ⟨b, 0, none⟩ x0).setCell ⟨b, 1, none⟩ x1).setCell ⟨b, 2, none⟩ x2) b #[x0, x1, x2] t :=
  ((h.set 0 x0).set 1 x1).set 2 x2
theorem Bk.set6 {y0 y1 y2 y3 y4 y5 x0 x1 x2 x3 x4 x5 : Value} (h : Bk w b #[y0, y1, y2, y3, y4, y5] t) : Bk ((((((w.setCell ⟨b, 0, none⟩ x0).setCell ⟨b, 1, none⟩ x1).setCell ⟨b, 2, none⟩ x2).setCell ⟨b, 3, none⟩ x3).setCell ⟨b, 4, none⟩ x4).setCell ⟨b, 5, none⟩ x5) b #[x0, x1, x2, x3, x4, x5] t :=
  (((((h.set 0 x0).set 1 x1).set 2 x2).set 3 x3).set 4 x4).set 5 x5
theorem Bk.set1 {y0 x0 : Value} (h : Bk w b #[y0] t) : Bk (w.setCell ⟨b, 0, none⟩ x0) b #[x0] t := h.set 0 x0
theorem Bk.cl (h : Bk w b vs t) (hb : Cl w w') : Bk w' b vs t := h.keep hb
end
/-- The rest of the walk, from a world of which this is known. -/
theorem settle {P : Program} {c : Code} {Q : Exit → Act → World → Prop} {a : Act} {w : World} (F : World → Prop) (hF : F w) (h : ∀ w', F w' → c.wp P Q a w') : c.wp P Q a w := h w hF
theorem settleC {P : Program} {f : FuncId} {args : Array Value} {K : Ending → World → Prop} {w : World} (F : World → Prop) (hF : F w) (h : ∀ w', F w' → Calls P f args w' K) : Calls P f args w K := h w hF
theorem settleU {P : Program} {o : Oper} {a : Act} {K : Act → World → Prop} {Q : Exit → Act → World → Prop} {v : Value} {w : World} (F : World → Prop) (hF : F w) (h : ∀ w', F w' → Oper.upon P o a K Q (.ok (.value v) w')) : Oper.upon P o a K Q (.ok (.value v) w) := h w hF
theorem wpLoose_facts {P : Program} {ops : Array Oper} {Q : Exit → Act → World → Prop} {W : World} {F : World → Prop} {kds : List Kd} {m : Nat} {l : List Oper} {a : Act} {G : World → Prop} (hF : ∀ w', Cl W w' → F w') (h : Hid (∀ w', Cl W w' → F w') → wpLoose P ops (Cl W) Q kds m l a G) : wpLoose P ops (Cl W) Q kds m l a G := h hF
end Go.Proofs.YtijoaklknpkdoaaGreat.Lp

namespace Go.Proofs.YtijoaklknpkdoaaGreat.Lm
open Go.RowKit Fl

theorem aside {p : Prop} (h : p) : Aside p := h
theorem owns_base {w : World} {b b' : Nat} {e : TypeId} {size : Nat} {v : Value} {n : Nat} {xs : List Value} (h : w.ownsRow b e size v n xs) (hb : b' ≤ b) : w.ownsRow b' e size v n xs := by
  refine ⟨h.1, ?_⟩
  rcases h.2 with h2 | ⟨g, cap, cur, hv, hg, r⟩
  · exact .inl h2
  · exact .inr ⟨g, cap, cur, hv, Nat.le_trans hb hg, r⟩

theorem owns_slice {w : World} {base : Nat} {e : TypeId} {size : Nat} {v : Value} {n : Nat} {xs : List Value} (h : w.ownsRow base e size v n xs) : ∃ ao cap, v = .slice ao n cap ∧ (ao = none → n = 0) := by
  rcases h.2 with ⟨rfl, rfl⟩ | ⟨g, cap, cur, rfl, _⟩
  · exact ⟨none, 0, rfl, fun _ => rfl⟩
  · exact ⟨_, cap, rfl, fun h => by cases h⟩

theorem owns_same {w w' : World} {base : Nat} {e : TypeId} {size : Nat} {v : Value} {n : Nat} {xs : List Value} (h : w.ownsRow base e size v n xs) (hb : Below w.heap.size w w') : w'.ownsRow base e size v n xs :=
  h.kept (row := none) ⟨hb.os, hb.tape, hb.output, hb.size, fun k hk _ => hb.block k hk⟩ (by cases hv : v.ownBlock <;> simp)

/-- append to what the call owns: the row is the same block, or a new one. -/
theorem run_push {P : Program} (w : World) (t ty e : TypeId) (i : TypeInfo) (z : Value) (size bytes : Nat) (ht : P.underlying t = some (.slice e)) (hi : P.info? e = some i) (hz : i.zero = some z)
    (hsize : i.size = size) (hby : i.bytes = bytes) (hzs : z.cells.size = size) (hsz : 0 < size)
    (v : Value) (n : Nat) (xs : List Value) (hown : w.ownsRow 0 e size v n xs)
    (a : Addr) (m c : Nat) (news : List Value) (hl : news.length = m * size) (hnews : ∀ j u, news[j]? = some u → w.cell? (a.add j) = some u) (h1 : ∀ u ∈ news, u.oneCell' = true)
    (h63 : n + m ≤ maxLen) (hbytes : (n + m) * bytes ≤ 140737488355328) :
    ∃ v' w', (Builtin.append_ #[t, t] ty #[v, .slice (some a) m c]).run P w = .ok v' w' ∧ w'.ownsRow 0 e size v' (n + m) (xs ++ news) ∧ w.grownBy w' v.ownBlock ∧ (v'.ownBlock = v.ownBlock ∨ ∀ k, v'.ownBlock = some k → w.heap.size ≤ k) := by
  have hown0 := hown
  rcases hown.2 with ⟨rfl, rfl⟩ | ⟨g, cap, cur, rfl, hbg, hg, hnc, hcm, hcs, htake⟩
  · obtain rfl : xs = [] := List.eq_nil_of_length_eq_zero (by simpa using hown.1)
    obtain ⟨v', w', hrun, r1, r2, _⟩ := run_append_own (P := P) w w.heap.size t ty e i z size bytes ht hi hz hsize hby hzs hsz (.slice none 0 0) 0 [] (World.ownsRow_nil w _ e size) a m c news hl hnews h1 h63 hbytes (Nat.le_refl _)
    exact ⟨v', w', hrun, owns_base r1 (Nat.zero_le _), r2, .inr fun k hk => (r1.lt k hk).1⟩
  · by_cases hroom : n + m ≤ cap
    · obtain ⟨w', hrun, r1, r2⟩ := run_append_fits (P := P) w 0 t ty e i size ht hi hsize g n cap xs hown0 a m c news hl hnews h1 hroom
      exact ⟨_, w', hrun, r1, r2, .inl rfl⟩
    · obtain ⟨v', w', hrun, r1, r2⟩ := run_append_arg_grows (P := P) w t ty e i z size bytes ht hi hz hsize hby hzs hsz ⟨g, 0, none⟩ n cap xs hown.1 (hown0.cells (g := g) rfl) a m c news hl hnews (by omega) h63 hbytes
      exact ⟨v', w', hrun, owns_base r1 (Nat.zero_le _), ⟨r2.os, r2.tape, r2.output, r2.size, fun k hk _ => r2.block k hk (by simp)⟩, .inr fun k hk => (r1.lt k hk).1⟩

theorem wp_push {P : Program} {o : Oper} {a : Act} {K : Act → World → Prop} {Q : Exit → Act → World → Prop} (w : World) (s x : Operand) (t : TypeId)
    (ho : o.op = .call { callee := .builtin .append, args := #[s, x], argTypes := #[t, t] })
    (e : TypeId) (i : TypeInfo) (z : Value) (size bytes : Nat) (ht : P.underlying t = some (.slice e)) (hi : P.info? e = some i) (hz : i.zero = some z)
    (hsize : i.size = size) (hby : i.bytes = bytes) (hzs : z.cells.size = size) (hsz : 0 < size)
    (v : Value) (n : Nat) (xs : List Value) (hs : a.eval s = v) (hown : w.ownsRow 0 e size v n xs)
    (ad : Addr) (m c : Nat) (news : List Value) (hx : a.eval x = .slice (some ad) m c) (hl : news.length = m * size) (hnews : ∀ j u, news[j]? = some u → w.cell? (ad.add j) = some u) (h1 : ∀ u ∈ news, u.oneCell' = true)
    (h63 : n + m ≤ maxLen) (hbytes : (n + m) * bytes ≤ 140737488355328)
    (h : ∀ v' w', w'.ownsRow 0 e size v' (n + m) (xs ++ news) → w.grownBy w' v.ownBlock → (v'.ownBlock = v.ownBlock ∨ ∀ k, v'.ownBlock = some k → w.heap.size ≤ k) → K (a.put o.dst v') w') : o.wp P a w K Q := by
  obtain ⟨v', w', hr, h2, h3, h4⟩ := run_push (P := P) w t o.type e i z size bytes ht hi hz hsize hby hzs hsz v n xs hown ad m c news hl hnews h1 h63 hbytes
  unfold Oper.wp execOp
  simp only [ho, resolve, invoke, builtin, Sem.run_bind, Sem.run_pure, Result.andThen_ok, List.map_toArray, List.map_cons, List.map_nil, hs, hx, hr]
  exact h v' w' h2 h3 h4

theorem wpList_push {P : Program} {ops : Array Oper} {rest : List Oper} {o : Oper} {a : Act} {Q : Exit → Act → World → Prop} (w : World) (hgd : o.guard = none) (s x : Operand) (t : TypeId)
    (ho : o.op = .call { callee := .builtin .append, args := #[s, x], argTypes := #[t, t] })
    (e : TypeId) (i : TypeInfo) (z : Value) (size bytes : Nat) (ht : P.underlying t = some (.slice e)) (hi : P.info? e = some i) (hz : i.zero = some z)
    (hsize : i.size = size) (hby : i.bytes = bytes) (hzs : z.cells.size = size) (hsz : 0 < size)
    (v : Value) (n : Nat) (xs : List Value) (hs : a.eval s = v) (hown : w.ownsRow 0 e size v n xs)
    (ad : Addr) (m c : Nat) (news : List Value) (hx : a.eval x = .slice (some ad) m c) (hl : news.length = m * size) (hnews : ∀ j u, news[j]? = some u → w.cell? (ad.add j) = some u) (h1 : ∀ u ∈ news, u.oneCell' = true)
    (h63 : n + m ≤ maxLen) (hbytes : (n + m) * bytes ≤ 140737488355328)
    (h : ∀ v' w', w'.ownsRow 0 e size v' (n + m) (xs ++ news) → w.grownBy w' v.ownBlock → (v'.ownBlock = v.ownBlock ∨ ∀ k, v'.ownBlock = some k → w.heap.size ≤ k) → wpList P ops Q rest (a.put o.dst v') w') : wpList P ops Q (o :: rest) a w :=
  wpList_plain hgd fun _ hK => wp_push w s x t ho e i z size bytes ht hi hz hsize hby hzs hsz v n xs hs hown ad m c news hx hl hnews h1 h63 hbytes fun v' w' h2 h3 h4 => hK _ _ (h v' w' h2 h3 h4)

theorem step_push {P : Program} {ops : Array Oper} {o : Oper} {a : Act} {K : Act → World → Prop} {Q : Exit → Act → World → Prop} {E : Prop} (w : World) (hg : o.guard = none) (s x : Operand) (t : TypeId)
    (ho : o.op = .call { callee := .builtin .append, args := #[s, x], argTypes := #[t, t] })
    (e : TypeId) (i : TypeInfo) (z : Value) (size bytes : Nat) (ht : P.underlying t = some (.slice e)) (hi : P.info? e = some i) (hz : i.zero = some z)
    (hsize : i.size = size) (hby : i.bytes = bytes) (hzs : z.cells.size = size) (hsz : 0 < size)
    (v : Value) (n : Nat) (xs : List Value) (hs : a.eval s = v) (hown : w.ownsRow 0 e size v n xs)
    (ad : Addr) (m c : Nat) (news : List Value) (hx : a.eval x = .slice (some ad) m c) (hl : news.length = m * size) (hnews : ∀ j u, news[j]? = some u → w.cell? (ad.add j) = some u) (h1 : ∀ u ∈ news, u.oneCell' = true)
    (h63 : n + m ≤ maxLen) (hbytes : (n + m) * bytes ≤ 140737488355328)
    (h : ∀ v' w', w'.ownsRow 0 e size v' (n + m) (xs ++ news) → w.grownBy w' v.ownBlock → (v'.ownBlock = v.ownBlock ∨ ∀ k, v'.ownBlock = some k → w.heap.size ≤ k) → K (a.put o.dst v') w') :
    if Region.wanted o (yielded ops a.tmps) = true then Oper.wp P o a w K Q else E := by
  have hw : Region.wanted o (yielded ops a.tmps) = true := by simp [Region.wanted, hg]
  rw [if_pos hw]
  exact wp_push w s x t ho e i z size bytes ht hi hz hsize hby hzs hsz v n xs hs hown ad m c news hx hl hnews h1 h63 hbytes h

theorem max_small {n : Nat} (h : n ≤ 1000000) : n ≤ maxLen := by unfold maxLen; omega

theorem addr_off (b off j : Nat) : (⟨b, off, none⟩ : Addr).add j = ⟨b, off + j, none⟩ := by
  simp only [Addr.add]
  split
  · rename_i hz; rw [hz]; rfl
  · rfl

/-- All blocks but B are as they were. -/
structure But (B : Nat) (w w' : World) : Prop where
  os : w'.os = w.os
  tape : w'.tape = w.tape
  output : w'.output = w.output
  size : w.heap.size ≤ w'.heap.size
  block : ∀ k, k < w.heap.size → k ≠ B → w'.heap[k]? = w.heap[k]?

theorem But.refl (B : Nat) (w : World) : But B w w := ⟨rfl, rfl, rfl, Nat.le_refl _, fun _ _ _ => rfl⟩

theorem But.trans {B : Nat} {a b c : World} (h : But B a b) (k : But B b c) : But B a c :=
  ⟨k.os.trans h.os, k.tape.trans h.tape, k.output.trans h.output, Nat.le_trans h.size k.size, fun i hi hn => (k.block i (Nat.lt_of_lt_of_le hi h.size) hn).trans (h.block i hi hn)⟩

theorem But.of {B : Nat} {w w' : World} (h : Below w.heap.size w w') : But B w w' := ⟨h.os, h.tape, h.output, h.size, fun k hk _ => h.block k hk⟩

theorem But.set (B i : Nat) (w : World) (u : Value) : But B w (w.setCell ⟨B, i, none⟩ u) := ⟨rfl, rfl, rfl, by simp [World.setCell], fun k _ hn => Below.heap_setCell _ _ _ _ hn⟩

theorem But.keep {B b : Nat} {w w' : World} {vs : Array Value} {t : TypeId} (h : But B w w') (hb : Lp.Bk w b vs t) (hn : b ≠ B) : Lp.Bk w' b vs t := (h.block b hb.lt hn).trans hb

theorem But.below {B T : Nat} {W w w' : World} (h : But B w w') (hb : Below T W w) (hT : T ≤ B) (hs : T ≤ w.heap.size) : Below T W w' :=
  ⟨h.os.trans hb.os, h.tape.trans hb.tape, h.output.trans hb.output, Nat.le_trans hb.size h.size, fun k hk => (h.block k (by omega) (by omega)).trans (hb.block k hk)⟩

/-- A store into a new block. -/
theorem But.more {T : Nat} {W w w' : World} (hb : But T W w) (hs : Below W.heap.size w w') : But T W w' :=
  ⟨hs.os.trans hb.os, hs.tape.trans hb.tape, hs.output.trans hb.output, Nat.le_trans hb.size hs.size, fun k hk hn => (hs.block k hk).trans (hb.block k hk hn)⟩

theorem setCell_same {w : World} {g : Nat} {cur : Array Value} {t : TypeId} {i : Nat} {v : Value} (h : Lp.Bk w g cur t) (hv : cur[i]? = some v) : w.setCell ⟨g, i, none⟩ v = w := by
  have e : (w.setCell ⟨g, i, none⟩ v).heap = w.heap := by
    apply Array.ext_getElem?
    intro k
    by_cases hk : k = g
    · subst hk
      have := h.set i v
      unfold Lp.Bk at this h
      rw [this, h]
      congr 2
      apply Array.ext_getElem?
      intro j
      by_cases hj : i = j
      · subst hj; rw [Array.getElem?_setIfInBounds_self_of_lt (Array.getElem?_eq_some_iff.1 hv).1, hv]
      · rw [Array.getElem?_setIfInBounds_ne hj]
    · exact Below.heap_setCell _ _ _ _ hk
  unfold World.setCell at *
  simp only at e
  rw [e]

theorem owns_set {w : World} {v : Value} {n : Nat} {e : TypeId} {xs : List Value} (h : w.ownsRow 0 e 1 v n xs) {p : Addr} (hne : v.ownBlock ≠ some p.block) (u : Value) : (w.setCell p u).ownsRow 0 e 1 v n xs := by
  obtain ⟨h1, h2⟩ := h
  refine ⟨h1, ?_⟩
  rcases h2 with h2 | ⟨g, cap, cur, hv, hg, hh, r⟩
  · exact .inl h2
  · refine .inr ⟨g, cap, cur, hv, hg, ?_, r⟩
    rw [Below.heap_setCell _ _ _ _ (fun e => hne (by rw [hv, e]; rfl))]
    exact hh

theorem grown_drew {w w' : World} {row : Option Nat} (h : w.drew.grownBy w' row) : w.grownBy w' row := ⟨h.os, h.tape, h.output, h.size, h.block⟩

theorem grown_keep {w w' : World} {row : Option Nat} (h : w.grownBy w' row) {b : Nat} {vs : Array Value} {t : TypeId} (hB : Lp.Bk w b vs t) (hn : row ≠ some b) : Lp.Bk w' b vs t := (h.block b hB.lt (fun e => hn e.symm)).trans hB

end Go.Proofs.YtijoaklknpkdoaaGreat.Lm

namespace Go.Proofs.YtijoaklknpkdoaaGreat
open Go.RowKit Fl Lm

/-- Block g reads, from off on, as these n elements of k cells. -/
structure Els (w : World) (g off n k : Nat) (e : Nat → List Value) : Prop where
  lt : g < w.heap.size
  at' : ∀ i, i < n → ∀ j, j < k → w.cell? ⟨g, off + (i * k + j), none⟩ = (e i)[j]?
section
variable {w w' : World} {g off n k : Nat} {e : Nat → List Value}
theorem Els.keep (h : Els w g off n k e) (hb : Below w.heap.size w w') : Els w' g off n k e :=
  ⟨Nat.lt_of_lt_of_le h.lt hb.size, fun i hi j hj => (hb.cell (p := ⟨g, off + (i * k + j), none⟩) h.lt).trans (h.at' i hi j hj)⟩
theorem Els.same (h : Els w g off n k e) (hs : w'.heap[g]? = w.heap[g]?) : Els w' g off n k e := by
  refine ⟨?_, fun i hi j hj => ?_⟩
  · have : w.heap[g]? ≠ none := by rw [Array.getElem?_eq_getElem h.lt]; exact fun e => by cases e
    rw [← hs] at this
    exact Nat.lt_of_not_le fun h => this (Array.getElem?_eq_none h)
  · rw [← h.at' i hi j hj]
    simp only [World.cell?, hs]
theorem Els.alo (h : Els w g off n k e) (o : Obj) : Els (w.alloc o) g off n k e := h.keep ((Below.refl _ _).alloc (Nat.le_refl _) _)
theorem Els.dr (h : Els w g off n k e) (m : Nat) : Els (w.drewN m) g off n k e := ⟨h.lt, h.at'⟩
theorem Els.seto (h : Els w g off n k e) {p : Addr} (hne : g ≠ p.block) (u : Value) : Els (w.setCell p u) g off n k e := h.same (Below.heap_setCell w p u g hne)
theorem Els.cl (h : Els w g off n k e) (hb : Cl w w') : Els w' g off n k e := h.keep hb
theorem Els.one (h : Els w g off n 1 e) {i : Nat} (hi : i < n) : w.cell? ⟨g, off + i, none⟩ = (e i)[0]? := by
  have := h.at' i hi 0 (by omega)
  rwa [Nat.mul_one, Nat.add_zero] at this
theorem Els.at0 (h : Els w g off n k e) {i : Nat} (hi : i < n) (hk : 0 < k) : w.cell? ⟨g, off + i * k, none⟩ = (e i)[0]? := h.at' i hi 0 hk
theorem Els.atj (h : Els w g off n k e) {i : Nat} (hi : i < n) {j : Nat} (hj : j < k) : w.cell? ⟨g, off + i * k + j, none⟩ = (e i)[j]? := by
  have := h.at' i hi j hj
  rwa [← Nat.add_assoc] at this
theorem Els.part (h : Els w g off n k e) {m l : Nat} (hm : m + l ≤ n) : Els w g (off + m * k) l k (fun i => e (m + i)) :=
  ⟨h.lt, fun i hi j hj => by rw [← h.at' (m + i) (by omega) j hj, Nat.add_mul]; congr 2; omega⟩
theorem Els.congr (h : Els w g off n k e) {e' : Nat → List Value} (he : ∀ i, i < n → e i = e' i) : Els w g off n k e' := ⟨h.lt, fun i hi j hj => by rw [← he i hi]; exact h.at' i hi j hj⟩
theorem Els.less (h : Els w g off n k e) {m : Nat} (hm : m ≤ n) : Els w g off m k e := ⟨h.lt, fun i hi j hj => h.at' i (by omega) j hj⟩
end
/-- The elements' cells, one behind another. -/
def flat (n : Nat) (e : Nat → List Value) : List Value := (List.range n).flatMap e
theorem flat_succ (n : Nat) (e : Nat → List Value) : flat (n + 1) e = flat n e ++ e n := by simp [flat, List.range_succ]
theorem flat_len {n k : Nat} {e : Nat → List Value} (he : ∀ i, i < n → (e i).length = k) : (flat n e).length = n * k := by
  induction n with
  | zero => simp [flat]
  | succ n ih => rw [flat_succ, List.length_append, ih fun i hi => he i (by omega), he n (by omega), Nat.add_mul, Nat.one_mul]
theorem flat_at {n k : Nat} {e : Nat → List Value} (he : ∀ i, i < n → (e i).length = k) {i j : Nat} (hi : i < n) (hj : j < k) : (flat n e)[i * k + j]? = (e i)[j]? := by
  induction n with
  | zero => omega
  | succ n ih =>
    have hl := flat_len (n := n) fun i hi => he i (by omega)
    rw [flat_succ]
    by_cases h : i < n
    · rw [List.getElem?_append_left, ih (fun i hi => he i (by omega)) h]
      rw [hl]
      have := Nat.mul_le_mul_right k (show i + 1 ≤ n by omega)
      rw [Nat.add_mul] at this
      omega
    · obtain rfl : i = n := by omega
      rw [List.getElem?_append_right (by omega), hl, Nat.add_sub_cancel_left]
theorem flat_congr {n : Nat} {e e' : Nat → List Value} (h : ∀ i, i < n → e i = e' i) : flat n e = flat n e' := by
  unfold flat
  rw [List.flatMap_def, List.flatMap_def]
  congr 1
  exact List.map_congr_left fun i hi => h i (List.mem_range.1 hi)
theorem flat_one {n : Nat} {e : Nat → List Value} (h1 : ∀ i, i < n → ∀ u ∈ e i, u.oneCell' = true) : ∀ u ∈ flat n e, u.oneCell' = true := by
  intro u hu
  obtain ⟨i, hi, h⟩ := List.mem_flatMap.1 hu
  exact h1 i (List.mem_range.1 hi) u h
theorem flat_take {n m k : Nat} {e : Nat → List Value} (he : ∀ i, i < n → (e i).length = k) (hm : m ≤ n) : (flat n e).take (m * k) = flat m e := by
  induction n with
  | zero => obtain rfl : m = 0 := by omega
            simp [flat]
  | succ n ih =>
    have hl := flat_len (n := n) fun i hi => he i (by omega)
    by_cases h : m = n + 1
    · subst h
      rw [List.take_of_length_le]
      rw [flat_len he]
      exact Nat.le_refl _
    · rw [flat_succ, List.take_append_of_le_length, ih (fun i hi => he i (by omega)) (by omega)]
      rw [hl]
      exact Nat.mul_le_mul_right k (by omega)

/-- What is owned reads so. -/
theorem owns_els {w : World} {b : Nat} {ty : TypeId} {ao : Option Addr} {n cap k : Nat} {e : Nat → List Value} (h : w.ownsRow b ty k (.slice ao n cap) n (flat n e)) (he : ∀ i, i < n → (e i).length = k) (h0 : 0 < n) : ∃ g, ao = some ⟨g, 0, none⟩ ∧ b ≤ g ∧ Els w g 0 n k e := by
  rcases h.2 with ⟨h2, h3⟩ | ⟨g, c, cur, hv, hg, hh, h1, h2, h3, h4⟩
  · simp at h2; omega
  · simp only [Value.slice.injEq] at hv
    obtain ⟨rfl, -, rfl⟩ := hv
    refine ⟨g, rfl, hg, (Array.getElem?_eq_some_iff.1 hh).1, fun i hi j hj => ?_⟩
    rw [Nat.zero_add]
    have hB : Lp.Bk w g cur ty := hh
    rw [hB.cell, ← flat_at he hi hj, ← h4, List.getElem?_take, if_pos, Array.getElem?_toList]
    have := Nat.mul_le_mul_right k (show i + 1 ≤ n by omega)
    rw [Nat.add_mul] at this
    omega
/-- Cut short: what is left is owned as well. -/
theorem owns_cut {w : World} {b : Nat} {ty : TypeId} {ao : Option Addr} {n cap k m : Nat} {e : Nat → List Value} (h : w.ownsRow b ty k (.slice ao n cap) n (flat n e)) (he : ∀ i, i < n → (e i).length = k) (hm : m ≤ n) : w.ownsRow b ty k (.slice ao m cap) m (flat m e) := by
  refine ⟨flat_len fun i hi => he i (by omega), ?_⟩
  rcases h.2 with ⟨h2, h3⟩ | ⟨g, c, cur, hv, hg, hh, h1, h2, h3, h4⟩
  · simp at h2
    obtain ⟨rfl, rfl, rfl⟩ := h2
    obtain rfl : m = 0 := by omega
    exact .inl ⟨rfl, rfl⟩
  · simp only [Value.slice.injEq] at hv
    obtain ⟨rfl, -, rfl⟩ := hv
    refine .inr ⟨g, cap, cur, rfl, hg, hh, by omega, h2, h3, ?_⟩
    rw [← flat_take he hm, ← h4, List.take_take, Nat.min_eq_left]
    exact Nat.mul_le_mul_right k hm
theorem owns_flat {w : World} {b k n : Nat} {ty : TypeId} {v : Value} {e : Nat → List Value} {x : List Value} (h : w.ownsRow b ty k v (n + 1) (flat n e ++ x)) {e' : Nat → List Value} (he : ∀ i, i < n → e i = e' i) (hx : e' n = x) : w.ownsRow b ty k v (n + 1) (flat (n + 1) e') := by
  rw [flat_succ, ← flat_congr he, hx]
  exact h
/-- A slice that reads as these elements. -/
def Sl (w : World) (ao : Option Addr) (n k : Nat) (e : Nat → List Value) : Prop := n = 0 ∨ ∃ g off, ao = some ⟨g, off, none⟩ ∧ Els w g off n k e
theorem Sl.keep {w w' : World} {ao : Option Addr} {n k : Nat} {e : Nat → List Value} (h : Sl w ao n k e) (hb : Below w.heap.size w w') : Sl w' ao n k e :=
  h.elim .inl fun ⟨g, off, e, hi⟩ => .inr ⟨g, off, e, hi.keep hb⟩
theorem Sl.get {w : World} {ao : Option Addr} {n k : Nat} {e : Nat → List Value} (h : Sl w ao n k e) {i : Nat} (hi : i < n) : ∃ g off, ao = some ⟨g, off, none⟩ ∧ Els w g off n k e :=
  h.elim (fun h => by omega) id
theorem Sl.of_owns {w : World} {b : Nat} {ty : TypeId} {ao : Option Addr} {n cap k : Nat} {e : Nat → List Value} (h : w.ownsRow b ty k (.slice ao n cap) n (flat n e)) (he : ∀ i, i < n → (e i).length = k) : Sl w ao n k e := by
  rcases Nat.eq_zero_or_pos n with h0 | h0
  · exact .inl h0
  · obtain ⟨g, e1, _, h1⟩ := owns_els h he h0
    exact .inr ⟨g, 0, e1, h1⟩
/-- Numbers of a list, as a slice's elements. -/
def lvs (l : List Nat) (i : Nat) : List Value := [.int .i64 ((l.getD i 0 : Nat) : Int)]
theorem lvs_len (l : List Nat) (i : Nat) : (lvs l i).length = 1 := rfl
theorem lvs_one (l : List Nat) (i : Nat) : ∀ u ∈ lvs l i, u.oneCell' = true := by
  intro u hu
  simp only [lvs, List.mem_cons, List.not_mem_nil, or_false] at hu
  rw [hu]; rfl
theorem Els.num {w : World} {g off n : Nat} {l : List Nat} (h : Els w g off n 1 (lvs l)) {j : Nat} (hj : j < n) : w.cell? ⟨g, off + j, none⟩ = some (.int .i64 ((l.getD j 0 : Nat) : Int)) := h.one hj
theorem getD_mem {l : List Nat} {j : Nat} (hj : j < l.length) : l.getD j 0 ∈ l := by
  rw [List.getD_eq_getElem?_getD, List.getElem?_eq_getElem hj]; exact List.getElem_mem hj
theorem take_more {l : List Nat} {j : Nat} (hj : j < l.length) : l.take (j + 1) = l.take j ++ [l.getD j 0] := by
  rw [List.getD_eq_getElem?_getD, List.getElem?_eq_getElem hj]
  exact List.take_succ_eq_append_getElem hj
end Go.Proofs.YtijoaklknpkdoaaGreat
