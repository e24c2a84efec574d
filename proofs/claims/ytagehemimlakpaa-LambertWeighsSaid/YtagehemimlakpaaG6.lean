/- A region that draws its order, in one walk in the order of the text: operations' values told up to a relation, calls and new blocks among them; what comes behind all others (a store) is left to the plain walk. Blocks that are known whole; a world told by what is known of it. Package warp: the eight directions; a point that is turned; a draw's sector. Package warp: the sector of a draw (around, Sector). What the statements ask of the numbers. -/
import Derived.Deep.Quiet
import Derived.Tactics
import Derived.Tactics2
import Derived.KernelRfl
import Derived.Deep.QuietTactic
import Derived.BigQuiet
import Derived.Test.YtagehemimlakpaaG4
import Derived.Test.YtagehemimlakpaaG5
namespace Go.Proofs.Ytagehemimlakpaa.Lp
open Go.RowKit Fl

/-- What an operation leaves: a value of V, and all that was there as it was. -/
def Upon (P : Program) (w0 : World) (V : Value → World → Prop) : Result Next → Prop
  | .ok (.value u) w' => V u w' ∧ Below w0.heap.size w0 w'
  | .ok (.enter f args) w1 => Calls P f args w1 fun e w' => ∃ v, e = .returned v ∧ V v w' ∧ Below w0.heap.size w0 w'
  | _ => False

theorem Upon.some {P : Program} {w0 : World} {V : Value → World → Prop} {r : Result Next} (h : Upon P w0 V r) : ∃ v w, V v w := by
  unfold Upon at h
  split at h
  · exact ⟨_, _, h.1⟩
  · obtain ⟨_, _, _, ⟨v, _, hv, _⟩, _⟩ := h []
    exact ⟨v, _, hv⟩
  · exact h.elim

/-- What is told of a world stays true while nothing that was there turns. -/
def Stable (G : World → Prop) : Prop := ∀ w w', Below w.heap.size w w' → G w → G w'

theorem Stable.const (p : Prop) : Stable fun _ => p := fun _ _ _ h => h
theorem Stable.and {G H : World → Prop} (hG : Stable G) (hH : Stable H) : Stable fun w => G w ∧ H w := fun w w' hb h => ⟨hG w w' hb h.1, hH w w' hb h.2⟩
theorem Stable.block (b : Nat) (o : Obj) (W : World) : Stable fun w => W.heap.size ≤ b ∧ w.heap[b]? = some o := fun w w' hb h => by
  refine ⟨h.1, ?_⟩
  have hlt : b < w.heap.size := (Array.getElem?_eq_some_iff.1 h.2).1
  rw [hb.block b hlt]
  exact h.2
theorem Stable.cl (W : World) : Stable (Cl W) := fun _ _ hb h => Cl.call h hb

abbrev Kd := Option (Value → World → Prop)

section
variable {P : Program} {ops : Array Oper} {C : World → Prop} {md : Region.Mode} {Q : Exit → Act → World → Prop}

/-- The values that an operation may leave in its slot, in every world of C. -/
def Gives (P : Program) (ops : Array Oper) (C : World → Prop) (kd : Kd) (o : Oper) (a : Act) (S : Value → World → Prop) : Prop :=
  if Region.wanted o (yielded ops a.tmps) = true then
    match kd with
    | none => ∃ v, S = (fun u _ => u = v) ∧ ∀ w, C w → (execOp a.eval o).run P w = .ok (.value v) w
    | some V => S = V ∧ (∀ v, Stable (V v)) ∧ ∀ w, C w → Upon P w V ((execOp a.eval o).run P w)
  else S = fun u _ => u = undef

theorem Gives.move {kd : Kd} {o : Oper} {a a' : Act} {S : Value → World → Prop} (h : Gives P ops C kd o a S) (he : execOp a'.eval o = execOp a.eval o)
    (hw : Region.wanted o (yielded ops a'.tmps) = Region.wanted o (yielded ops a.tmps)) : Gives P ops C kd o a' S := by
  unfold Gives at *
  rw [he, hw]
  exact h

theorem Gives.one {kd : Kd} {o : Oper} {a : Act} {S T : Value → World → Prop} {w : World} (hC : C w) (h : Gives P ops C kd o a S) (k : Gives P ops C kd o a T) : S = T := by
  unfold Gives at *
  split at h
  · rename_i hw
    rw [if_pos hw] at k
    cases kd with
    | none =>
      obtain ⟨v, rfl, hv⟩ := h
      obtain ⟨u, rfl, hu⟩ := k
      have e := (hv w hC).symm.trans (hu w hC)
      injection e with e1 _
      injection e1 with e2
      rw [e2]
    | some V => exact h.1.trans k.1.symm
  · rename_i hw
    rw [if_neg hw] at k
    exact h.trans k.symm

theorem Gives.ex {kd : Kd} {o : Oper} {a : Act} {S : Value → World → Prop} {w : World} (hC : C w) (h : Gives P ops C kd o a S) : ∃ v w, S v w := by
  unfold Gives at h
  split at h
  · cases kd with
    | none => obtain ⟨v, rfl, _⟩ := h; exact ⟨v, w, rfl⟩
    | some V => obtain ⟨rfl, _, hv⟩ := h; exact (hv w hC).some
  · exact ⟨undef, w, by rw [h]⟩

theorem Gives.stable {kd : Kd} {o : Oper} {a : Act} {S : Value → World → Prop} (h : Gives P ops C kd o a S) (v : Value) : Stable (S v) := by
  unfold Gives at h
  split at h
  · cases kd with
    | none => obtain ⟨v, rfl, _⟩ := h; exact Stable.const _
    | some V => obtain ⟨rfl, hs, _⟩ := h; exact hs v
  · rw [h]; exact Stable.const _

/-- One operation. -/
def Step (P : Program) (ops : Array Oper) (C : World → Prop) (kd : Kd) (o : Oper) (K : Act → (World → Prop) → Prop) (a : Act) (G : World → Prop) : Prop :=
  ∃ S, Gives P ops C kd o a S ∧ ∀ v, (∃ w, S v w) → K (a.put o.dst v) (fun w => G w ∧ S v w)

theorem wpOp_of_step {kd : Kd} {o : Oper} {K : Act → (World → Prop) → Prop} {a : Act} {G : World → Prop} {i : Nat} {w : World} {K' : Act → World → Prop} (hi : ops[i]? = some o) (hC : ∀ w, G w → C w) (hG : Stable G) (hw0 : G w)
    (hK : ∀ a' G' w', (∀ w, G' w → C w) → Stable G' → G' w' → K a' G' → K' a' w') (h : Step P ops C kd o K a G) : wpOp P ops Q i K' a w := by
  obtain ⟨S, hS, hn⟩ := h
  have hst := hS.stable
  unfold Gives at hS
  unfold wpOp
  rw [hi]
  dsimp only
  have fin : ∀ v w', S v w' → G w' → K' (a.put o.dst v) w' := fun v w' hv hg =>
    hK _ _ _ (fun w h => hC w h.1) (hG.and (hst v)) ⟨hg, hv⟩ (hn v ⟨w', hv⟩)
  split at hS
  · rename_i hw
    rw [if_pos hw]
    refine .inl ?_
    unfold Oper.wp
    cases kd with
    | none =>
      obtain ⟨v, rfl, hv⟩ := hS
      rw [hv w (hC w hw0)]
      exact fin v w rfl hw0
    | some V =>
      obtain ⟨rfl, _, hv⟩ := hS
      have h1 := hv w (hC w hw0)
      generalize (execOp a.eval o).run P w = r at h1
      unfold Upon at h1
      split at h1
      · exact fin _ _ h1.1 (hG _ _ h1.2 hw0)
      · refine Calls.mono h1 fun e w'' ⟨v, he, hV, hb⟩ => ?_
        subst he
        exact fin _ _ hV (hG _ _ hb hw0)
      · exact h1.elim
  · rename_i hw
    rw [if_neg hw]
    exact fin undef w (by rw [hS]) hw0

/-- Whatever order is picked, till the first m operations are done; then F. -/
def anyL (P : Program) (md : Region.Mode) (ops : Array Oper) (C : World → Prop) (kinds : Nat → Kd) (m : Nat) (F : Act → (World → Prop) → Prop) : Nat → Array Bool → Act → (World → Prop) → Prop
  | 0, listed, a, G => (∀ k, k < m → listed.getD k true = true) ∧ (∀ k, m ≤ k → k < ops.size → listed.getD k true = false) ∧ F a G
  | fuel + 1, listed, a, G => Region.ready md ops listed ≠ [] ∧ ∀ i ∈ Region.ready md ops listed, ∃ o, ops[i]? = some o ∧ Step P ops C (kinds i) o (anyL P md ops C kinds m F fuel (listed.setIfInBounds i true)) a G

theorem anyL_anti {kinds : Nat → Kd} {m : Nat} {F : Act → (World → Prop) → Prop} (hF : ∀ a G G', (∀ w, G' w → G w) → F a G → F a G') :
    ∀ (fuel : Nat) (listed : Array Bool) (a : Act) (G G' : World → Prop), (∀ w, G' w → G w) → anyL P md ops C kinds m F fuel listed a G → anyL P md ops C kinds m F fuel listed a G' := by
  intro fuel
  induction fuel with
  | zero => intro listed a G G' hs h; exact ⟨h.1, h.2.1, hF _ _ _ hs h.2.2⟩
  | succ fuel ih =>
    intro listed a G G' hs h
    refine ⟨h.1, fun i hi => ?_⟩
    obtain ⟨o, ho, S, hS, hn⟩ := h.2 i hi
    exact ⟨o, ho, S, hS, fun v hv => ih _ _ _ _ (fun w hw => ⟨hs w hw.1, hw.2⟩) (hn v hv)⟩

/-- What is listed has all that it waits for listed ahead of it. -/
def Closed (md : Region.Mode) (ops : Array Oper) (listed : Array Bool) : Prop :=
  ∀ i o, ops[i]? = some o → listed.getD i false = true → ∀ e ∈ o.after, Region.binds md e = true → listed.getD e.on false = true
theorem Closed.set {listed : Array Bool} (h : Closed md ops listed) {i : Nat} (hr : i ∈ Region.ready md ops listed) : Closed md ops (listed.setIfInBounds i true) := by
  intro j o ho hj e he hb
  refine getD_set_true ?_
  by_cases hij : i = j
  · subst hij
    obtain ⟨_, o', ho', hall⟩ := mem_ready.1 hr
    rw [ho] at ho'
    cases ho'
    exact hall e he hb
  · rw [getD_set_ne false hij] at hj
    exact h j o ho hj e he hb
theorem Closed.none (n : Nat) : Closed md ops (Array.replicate n false) := by
  intro i o _ h
  exfalso
  rcases Nat.lt_or_ge i n with h' | h'
  · simp [h'] at h
  · simp [Array.getElem?_eq_none (xs := Array.replicate n false) (i := i) (by simpa using h')] at h

/-- Operation i waits for k, be it by others. -/
def waits (md : Region.Mode) (ops : Array Oper) : Nat → Nat → Nat → Bool
  | 0, _, _ => false
  | n + 1, i, k => match ops[i]? with
    | some o => (o.after.any fun e => Region.binds md e && e.on == k) || o.after.any fun e => Region.binds md e && waits md ops n e.on k
    | none => false
theorem waits_spec {listed : Array Bool} (hc : Closed md ops listed) {k : Nat} : ∀ (n i : Nat), waits md ops n i k = true → (∀ o, ops[i]? = some o → ∀ e ∈ o.after, Region.binds md e = true → listed.getD e.on false = true) → listed.getD k false = true
  | 0, _, h, _ => by cases h
  | n + 1, i, h, hp => by
    unfold waits at h
    cases ho : ops[i]? with
    | none => rw [ho] at h; cases h
    | some o =>
      rw [ho] at h
      simp only [Bool.or_eq_true] at h
      rcases h with h | h
      · obtain ⟨e, he, hb⟩ := Array.any_eq_true'.1 h
        simp only [Bool.and_eq_true, beq_iff_eq] at hb
        have := hp o ho e he hb.1
        rw [hb.2] at this
        exact this
      · obtain ⟨e, he, hb⟩ := Array.any_eq_true'.1 h
        simp only [Bool.and_eq_true] at hb
        exact waits_spec hc n e.on hb.2 fun o' ho' e' he' hb' => hc e.on o' ho' (hp o ho e he hb.1) e' he' hb'

/-- Each operation from number m on waits for all before number m and for the one right before it, be it by others. -/
def tailWaits (md : Region.Mode) (ops : Array Oper) (m : Nat) : Bool :=
  decide (m ≤ ops.size) && (List.range ops.size).all fun i => decide (i < m) || match ops[i]? with
    | some _ => (List.range i).all fun k => (decide (m ≤ k) && decide (k + 1 ≠ i)) || waits md ops 5 i k
    | none => false

theorem tailWaits_spec {m : Nat} (h : tailWaits md ops m = true) {listed : Array Bool} (hc : Closed md ops listed) {i : Nat} (hm : m ≤ i) (hr : i ∈ Region.ready md ops listed) : ∀ k, k < i → (k < m ∨ k + 1 = i) → listed.getD k false = true := by
  intro k hk hkm
  simp only [tailWaits, Bool.and_eq_true] at h
  obtain ⟨_, o, ho, hall⟩ := mem_ready.1 hr
  have hsz := (Array.getElem?_eq_some_iff.1 ho).1
  have h1 := List.all_eq_true.1 h.2 i (List.mem_range.2 hsz)
  have hd : decide (i < m) = false := by simp; omega
  rw [hd, ho, Bool.false_or] at h1
  have h2 := List.all_eq_true.1 h1 k (List.mem_range.2 hk)
  have hd2 : (decide (m ≤ k) && decide (k + 1 ≠ i)) = false := by
    rcases hkm with h | h
    · simp; omega
    · simp [h]
  rw [hd2, Bool.false_or] at h2
  refine waits_spec hc 5 i h2 fun o' ho' => ?_
  rw [ho] at ho'
  cases ho'
  exact hall

/-- An operation that may come up now may be taken first. -/
theorem anyL_first {kinds : Nat → Kd} {m : Nat} {F : Act → (World → Prop) → Prop} (hF : ∀ a G G', (∀ w, G' w → G w) → F a G → F a G') {w0 : World} (hC : C w0) (hL : tailWaits md ops m = true) {i : Nat} (him : i < m) {oi : Oper} (hi : ops[i]? = some oi)
    (hsel : ∀ (j : Nat) (o : Oper) cs b, ops[j]? = some o → o.op ≠ .select cs b) {S : Value → World → Prop} :
    ∀ (fuel : Nat) (listed : Array Bool) (a : Act) (G : World → Prop), Closed md ops listed →
      (∀ j oj, ops[j]? = some oj → j ≠ i → listed.getD j true = false → (∀ e ∈ oj.after, Region.binds md e = true → e.on ≠ i) → oi.apart ops oj = true) →
      i ∈ Region.ready md ops listed → Gives P ops C (kinds i) oi a S →
      (∀ v, (∃ w, S v w) → anyL P md ops C kinds m F fuel (listed.setIfInBounds i true) (a.put oi.dst v) (fun w => G w ∧ S v w)) → anyL P md ops C kinds m F (fuel + 1) listed a G := by
  have small : ∀ (listed : Array Bool) (j : Nat), Closed md ops listed → i ∈ Region.ready md ops listed → j ∈ Region.ready md ops listed → j < m := by
    intro listed j hc hr hj
    rcases Nat.lt_or_ge j m with h | h
    · exact h
    · have h3 := getD_true_of (tailWaits_spec hL hc h hj i (by omega) (.inl him))
      rw [(mem_ready.1 hr).1] at h3
      cases h3
  intro fuel
  induction fuel with
  | zero =>
    intro listed a G hc _ hr hG H
    refine ⟨fun h => (by rw [h] at hr; cases hr), fun j hj => ?_⟩
    by_cases hji : j = i
    · subst hji; exact ⟨oi, hi, S, hG, H⟩
    · obtain ⟨v, w, hv⟩ := hG.ex hC
      have h1 := (H v ⟨w, hv⟩).1 j (small listed j hc hr hj)
      rw [getD_set_ne true (Ne.symm hji), (mem_ready.1 hj).1] at h1
      cases h1
  | succ fuel ih =>
    intro listed a G hc hfree hr hG H
    refine ⟨fun h => (by rw [h] at hr; cases hr), fun j hj => ?_⟩
    by_cases hji : j = i
    · subst hji; exact ⟨oi, hi, S, hG, H⟩
    · obtain ⟨hjun, oj, hoj, hall⟩ := mem_ready.1 hj
      have hnot : ∀ e ∈ oj.after, Region.binds md e = true → e.on ≠ i := by
        intro e he hb heq
        have h1 := getD_true_of (hall e he hb)
        rw [heq, (mem_ready.1 hr).1] at h1
        cases h1
      obtain ⟨h1, h2, h3⟩ := Oper.apart_spec (hfree j oj hoj hji hjun hnot)
      have hsi := fun cs b => hsel i oi cs b hi
      have hsj := fun cs b => hsel j oj cs b hoj
      have got : ∀ v, (∃ w, S v w) → ∃ T, Gives P ops C (kinds j) oj a T ∧ ∀ u, (∃ w, T u w) → anyL P md ops C kinds m F fuel ((listed.setIfInBounds i true).setIfInBounds j true) ((a.put oi.dst v).put oj.dst u) (fun w => (G w ∧ S v w) ∧ T u w) := by
        intro v hv
        obtain ⟨o', ho', T, hT, hn⟩ := (H v hv).2 j (ready_mono hj hji)
        rw [hoj] at ho'
        cases ho'
        exact ⟨T, hT.move (execOp_put oj hsj a oi.dst v h1).symm (wanted_put oj a oi.dst v h1).symm, hn⟩
      obtain ⟨v0, w1, hv0⟩ := hG.ex hC
      obtain ⟨T, hT, _⟩ := got v0 ⟨w1, hv0⟩
      refine ⟨oj, hoj, T, hT, fun u hu => ih (listed.setIfInBounds j true) (a.put oj.dst u) _ (hc.set hj) ?_ (ready_mono hr (Ne.symm hji)) (hG.move (execOp_put oi hsi a oj.dst u h3) (wanted_put oi a oj.dst u h3)) fun v hv => ?_⟩
      · intro k ok hk hki hun hno
        refine hfree k ok hk hki ?_ hno
        by_cases hjk : j = k
        · subst hjk; exact hjun
        · rw [getD_set_ne true hjk] at hun; exact hun
      · obtain ⟨T', hT', hn⟩ := got v hv
        have e := Gives.one hC hT hT'
        subst e
        have := hn u hu
        rw [Array.setIfInBounds_comm _ _ (Ne.symm hji)] at this
        rw [← Act.put_comm a v u h2]
        exact anyL_anti hF _ _ _ _ _ (fun w hw => ⟨⟨hw.1.1, hw.2⟩, hw.1.2⟩) this

/-- The rest, each operation behind all before it. -/
theorem wpAny_tail {m : Nat} (hL : tailWaits md ops m = true) : ∀ (l : List Oper) (k : Nat) (listed : Array Bool) (a : Act) (w : World), Closed md ops listed → m ≤ k → (∀ j, l[j]? = ops[k + j]?) → k + l.length = ops.size →
    (∀ j, j < k → listed.getD j true = true) → (∀ j, k ≤ j → j < ops.size → listed.getD j true = false) → Region.lexFrom md ops l.length k listed = true → wpList P ops Q l a w → wpAny P md ops Q l.length listed a w
  | [], k, listed, a, w, hc, hm, hl, hn, hd, hu, hB, h => ⟨by simpa [Region.lexFrom] using hB, h⟩
  | o :: l, k, listed, a, w, hc, hm, hl, hn, hd, hu, hB, h => by
    have h0 : ops[k]? = some o := by simpa using (hl 0).symm
    simp only [List.length_cons, Region.lexFrom, Bool.and_eq_true] at hB
    obtain ⟨⟨hr, hf⟩, hB'⟩ := hB
    have hr' : k ∈ Region.ready md ops listed := by simpa using hr
    have hsz := lt_of_ready hr'
    have hlsz : k < listed.size := by
      rcases Nat.lt_or_ge k listed.size with h' | h'
      · exact h'
      · have := hu k (Nat.le_refl _) hsz
        simp [Array.getElem?_eq_none h'] at this
    refine ⟨fun h1 => (by rw [h1] at hr'; cases hr'), fun i hi => ?_⟩
    have hik : i = k := by
      rcases Nat.lt_trichotomy i k with h' | h' | h'
      · have := hd i h'; rw [(mem_ready.1 hi).1] at this; cases this
      · exact h'
      · have hi2 := lt_of_ready hi
        have := getD_true_of (tailWaits_spec hL hc (by omega) hi (i - 1) (by omega) (.inr (by omega)))
        rw [hu (i - 1) (by omega) (by omega)] at this
        cases this
    subst hik
    have again : ∀ a w, wpList P ops Q l a w → wpAny P md ops Q l.length (listed.setIfInBounds i true) a w := fun a w hh =>
      wpAny_tail hL l (i + 1) _ a w (hc.set hi) (by omega) (fun j => by have := hl (j + 1); simpa [Nat.add_assoc, Nat.add_comm 1 j] using this) (by simp at hn; omega)
        (fun j hj => by
          by_cases hji : i = j
          · subst hji; simp [hlsz]
          · rw [getD_set_ne true hji]; exact hd j (by omega))
        (fun j hj hjs => by rw [getD_set_ne true (by omega)]; exact hu j (by omega) hjs) hB' hh
    unfold wpList at h
    unfold wpOp
    rw [h0]
    dsimp only
    split at h
    · rename_i hwd
      rw [if_pos hwd]
      exact h.imp (Oper.wp_mono again) id
    · rename_i hwd
      rw [if_neg hwd]
      exact again _ _ h

theorem wpAny_of_L {kinds : Nat → Kd} {m : Nat} {l : List Oper} (hL : tailWaits md ops m = true) (hl : ∀ j, l[j]? = ops[m + j]?) (hn : m + l.length = ops.size) (hB : ∀ listed : Array Bool, listed.size = ops.size → (∀ k, k < m → listed.getD k true = true) → (∀ k, m ≤ k → k < ops.size → listed.getD k true = false) → Region.lexFrom md ops l.length m listed = true) :
    ∀ (fuel : Nat) (listed : Array Bool) (a : Act) (G : World → Prop) (w : World), Closed md ops listed → listed.size = ops.size → (∀ w, G w → C w) → Stable G → G w → anyL P md ops C kinds m (fun a G => ∀ w, G w → wpList P ops Q l a w) fuel listed a G → wpAny P md ops Q (l.length + fuel) listed a w := by
  intro fuel
  induction fuel with
  | zero =>
    intro listed a G w hc hsz hC hG hw h
    exact wpAny_tail hL l m listed a w hc (Nat.le_refl _) hl hn h.1 h.2.1 (hB listed hsz h.1 h.2.1) (h.2.2 w hw)
  | succ fuel ih =>
    intro listed a G w hc hsz hC hG hw h
    refine ⟨fun h0 => absurd h0 h.1, fun i hi => ?_⟩
    obtain ⟨o, ho, hs⟩ := h.2 i hi
    exact wpOp_of_step ho hC hG hw (fun a' G' w' hC' hG' hw' hk => ih _ a' G' w' (hc.set hi) (by simp [hsz]) hC' hG' hw' hk) hs

/-- The walk in the order of the text, a kind beside each operation; what is behind the first m is left to the plain walk. -/
def wpLoose (P : Program) (ops : Array Oper) (C : World → Prop) (Q : Exit → Act → World → Prop) : List Kd → Nat → List Oper → Act → (World → Prop) → Prop
  | _, 0, l, a, G => ∀ w, G w → wpList P ops Q l a w
  | _, _ + 1, [], _, _ => False
  | kds, m + 1, o :: l, a, G => Step P ops C (kds.headD none) o (wpLoose P ops C Q kds.tail m l) a G

theorem wpLoose_anti : ∀ (m : Nat) (kds : List Kd) (l : List Oper) (a : Act) (G G' : World → Prop), (∀ w, G' w → G w) → wpLoose P ops C Q kds m l a G → wpLoose P ops C Q kds m l a G'
  | 0, kds, l, a, G, G', hs, h => fun w hw => h w (hs w hw)
  | _ + 1, _, [], _, _, _, _, h => h
  | m + 1, kds, o :: l, a, G, G', hs, h => by
    obtain ⟨S, hS, hn⟩ := h
    exact ⟨S, hS, fun v hv => wpLoose_anti m _ _ _ _ _ (fun w hw => ⟨hs w hw.1, hw.2⟩) (hn v hv)⟩

theorem getD_ext {x y : Array Bool} (hs : x.size = y.size) (h : ∀ k, k < x.size → x.getD k true = y.getD k true) : x = y := by
  refine Array.ext hs fun k h1 h2 => ?_
  have := h k h1
  simpa [h1, h2] using this

theorem anyL_lex {m : Nat} {w0 : World} (hC : C w0) (hs : Region.noSelect ops = true) (hL : tailWaits md ops m = true) {tl : List Oper} {kinds : Nat → Kd} (hlt : tl.length = ops.size - m) (hm : m ≤ ops.size) (htl : ∀ j, tl[j]? = ops[m + j]?) :
    ∀ (n : Nat) (l : List Oper) (kds : List Kd) (k : Nat) (listed : Array Bool) (a : Act) (G : World → Prop), Closed md ops listed → (∀ j, l[j]? = ops[k + j]?) → (∀ j, kinds (k + j) = kds.getD j none) → k + n = m → k + l.length = ops.size → listed.size = ops.size →
      (∀ j, j < k → listed.getD j true = true) → (∀ j, k ≤ j → j < ops.size → listed.getD j true = false) → Region.lexFrom md ops l.length k listed = true → wpLoose P ops C Q kds n l a G →
      anyL P md ops C kinds m (fun a G => ∀ w, G w → wpList P ops Q tl a w) n listed a G
  | 0, l, kds, k, listed, a, G, hc, hl, hk, hn, hll, hsz, hd, hu, hB, h => by
    have hkm : k = m := by omega
    subst hkm
    have : l = tl := by
      refine List.ext_getElem? fun j => ?_
      rw [hl j, htl j]
    subst this
    exact ⟨hd, hu, h⟩
  | n + 1, [], kds, k, listed, a, G, hc, hl, hk, hn, hll, hsz, hd, hu, hB, h => h.elim
  | n + 1, o :: l, kds, k, listed, a, G, hc, hl, hk, hn, hll, hsz, hd, hu, hB, h => by
    have h0 : ops[k]? = some o := by simpa using (hl 0).symm
    simp only [List.length_cons, Region.lexFrom, Bool.and_eq_true] at hB
    obtain ⟨⟨hr, hf⟩, hB'⟩ := hB
    obtain ⟨S, hS, hK⟩ := h
    have e0 : kinds k = kds.headD none := by have := hk 0; cases kds <;> simpa using this
    rw [← e0] at hS
    have hr' : k ∈ Region.ready md ops listed := by simpa using hr
    have hlt' := lt_of_ready hr'
    refine anyL_first (fun a G G' hs h w hw => h w (hs w hw)) hC hL (by omega) h0 (Region.noSelect_spec hs) _ listed a G hc (Region.free_spec h0 hf) hr' hS fun v hv => ?_
    refine anyL_lex hC hs hL hlt hm htl n l kds.tail (k + 1) _ _ _ (hc.set hr') (fun j => ?_) (fun j => ?_) (by omega) (by simp at hll; omega) (by simp [hsz]) (fun j hj => ?_) (fun j hj hjs => ?_) hB' (hK v hv)
    · have := hl (j + 1); simpa [Nat.add_assoc, Nat.add_comm 1 j] using this
    · have := hk (j + 1)
      rw [Nat.add_assoc, Nat.add_comm 1 j, this]
      cases kds <;> simp
    · by_cases hjk : k = j
      · subst hjk
        simp [hsz, hlt']
      · rw [getD_set_ne true hjk]
        exact hd j (by omega)
    · rw [getD_set_ne true (by omega)]; exact hu j (by omega) hjs

theorem lexFrom_at : ∀ (n k : Nat) (listed : Array Bool) (len : Nat), listed.size = ops.size → n ≤ len → Region.lexFrom md ops len k listed = true → (∀ j, j < k → listed.getD j true = true) → (∀ j, k ≤ j → j < ops.size → listed.getD j true = false) → k + len = ops.size →
    ∀ listed' : Array Bool, listed'.size = ops.size → (∀ j, j < k + n → listed'.getD j true = true) → (∀ j, k + n ≤ j → j < ops.size → listed'.getD j true = false) → Region.lexFrom md ops (len - n) (k + n) listed' = true
  | 0, k, listed, len, hsz, hle, hB, hd, hu, hk, listed', hsz', hd', hu' => by
    have : listed' = listed := by
      refine getD_ext (hsz'.trans hsz.symm) fun j hj => ?_
      rcases Nat.lt_or_ge j k with h | h
      · rw [hd j h, hd' j (by omega)]
      · rw [hu j h (by omega), hu' j (by omega) (by omega)]
    subst this
    simpa using hB
  | n + 1, k, listed, 0, hsz, hle, hB, hd, hu, hk, listed', hsz', hd', hu' => by omega
  | n + 1, k, listed, len + 1, hsz, hle, hB, hd, hu, hk, listed', hsz', hd', hu' => by
    simp only [Region.lexFrom, Bool.and_eq_true] at hB
    have hks : k < listed.size := by omega
    have := lexFrom_at n (k + 1) (listed.setIfInBounds k true) len (by simp [hsz]) (by omega) hB.2 (fun j hj => by
        by_cases hjk : k = j
        · subst hjk; simp [hks]
        · rw [getD_set_ne true hjk]; exact hd j (by omega)) (fun j hj hjs => by rw [getD_set_ne true (by omega)]; exact hu j (by omega) hjs) (by omega) listed' hsz' (fun j hj => hd' j (by omega)) (fun j hj hjs => hu' j (by omega) hjs)
    rw [show k + (n + 1) = k + 1 + n by omega, show len + 1 - (n + 1) = len - n by omega]
    exact this

/-- The law: a region that draws, written out; its first m operations are walked so. -/
theorem wp_region_loose {id : Nat} {a : Act} {w : World} {l : List Oper} (W : World) (kds : List Kd) (m : Nat) (hm : P.follows .mixedOrders = true) (hB : Region.lexB .any l.toArray = true)
    (hL : tailWaits .any l.toArray m = true) (hW : Cl W w) (h : wpLoose P l.toArray (Cl W) Q kds m l a (Cl W)) : (Code.region id l.toArray true).wp P Q a w := by
  simp only [Region.lexB, Bool.and_eq_true] at hB
  have hms : m ≤ l.toArray.size := by have := hL; simp only [tailWaits, Bool.and_eq_true] at this; exact of_decide_eq_true this.1
  have hC : Cl W w.drew := Below.drew hW
  refine wp_region_any hm ?_
  have e1 : ∀ j, (Array.replicate l.toArray.size false).getD j true = decide (l.toArray.size ≤ j) := by
    intro j
    rcases Nat.lt_or_ge j l.toArray.size with h' | h'
    · have h2 : ¬ l.toArray.size ≤ j := by omega
      rw [decide_eq_false h2]
      simp at h'
      simp [h']
    · rw [decide_eq_true h']
      simp at h'
      simp [h']
  have hd0 : ∀ j, j < 0 → (Array.replicate l.toArray.size false).getD j true = true := fun j hj => absurd hj (Nat.not_lt_zero j)
  have hu0 : ∀ j, 0 ≤ j → j < l.toArray.size → (Array.replicate l.toArray.size false).getD j true = false := fun j _ hj => by rw [e1 j]; exact decide_eq_false (by omega)
  have htl : ∀ j, (l.drop m)[j]? = l.toArray[m + j]? := fun j => by simp
  have hlen : (l.drop m).length = l.toArray.size - m := by simp
  have h1 := anyL_lex (P := P) (Q := Q) (md := .any) (kinds := fun j => kds.getD j none) hC hB.1 hL (tl := l.drop m) hlen hms htl m l kds 0 (Array.replicate l.toArray.size false) a (Cl W) (Closed.none _) (by simp) (by simp) (by omega) (by simp) (by simp) hd0 hu0 (by simpa using hB.2) h
  have h2 := wpAny_of_L (P := P) (Q := Q) (C := Cl W) hL htl (by rw [hlen]; omega) (fun listed hsz hd hu => by
      have := lexFrom_at (md := .any) m 0 (Array.replicate l.toArray.size false) l.toArray.size (by simp) hms (by simpa using hB.2) hd0 hu0 (by omega) listed hsz (by simpa using hd) (by simpa using hu)
      rw [hlen]
      simpa using this) m _ _ _ _ (Closed.none _) (by simp) (fun _ h => h) (Stable.cl W) hC h1
  have e : (l.drop m).length + m = l.toArray.size := by rw [hlen]; omega
  rw [e] at h2
  exact h2

/-! The steps -/
/-- An operation that gives one value. -/
theorem one {kds : List Kd} {m : Nat} {o : Oper} {l : List Oper} {a : Act} {G : World → Prop} (v : Value) (hw : Region.wanted o (yielded ops a.tmps) = true)
    (h : ∀ w, C w → (execOp a.eval o).run P w = .ok (.value v) w) (hK : ∀ K : Act → Prop, Hid (∀ a, wpLoose P ops C Q kds m l a G → K a) → K (a.put o.dst v)) : wpLoose P ops C Q (none :: kds) (m + 1) (o :: l) a G :=
  ⟨fun u _ => u = v, by unfold Gives; rw [if_pos hw]; exact ⟨v, rfl, h⟩, fun u ⟨_, hu⟩ => by subst hu; exact wpLoose_anti _ _ _ _ _ _ (fun _ h => h.1) (hK _ fun _ h => h)⟩
/-- An operation whose value is told up to V. -/
theorem any {V : Value → Prop} {kds : List Kd} {m : Nat} {o : Oper} {l : List Oper} {a : Act} {G : World → Prop} (hw : Region.wanted o (yielded ops a.tmps) = true)
    (h : ∀ w, C w → Upon P w (fun v _ => V v) ((execOp a.eval o).run P w)) (hK : ∀ K : Act → Prop, Hid (∀ a, wpLoose P ops C Q kds m l a G → K a) → ∀ v, V v → K (a.put o.dst v)) : wpLoose P ops C Q (some (fun v _ => V v) :: kds) (m + 1) (o :: l) a G :=
  ⟨fun v _ => V v, by unfold Gives; rw [if_pos hw]; exact ⟨rfl, fun _ => Stable.const _, h⟩, fun u ⟨_, hu⟩ => wpLoose_anti _ _ _ _ _ _ (fun _ h => h.1) (hK _ (fun _ h => h) u hu)⟩
/-- An operation that is not wanted. -/
theorem skip {kd : Kd} {kds : List Kd} {m : Nat} {o : Oper} {l : List Oper} {a : Act} {G : World → Prop} (hw : Region.wanted o (yielded ops a.tmps) = false)
    (hK : ∀ K : Act → Prop, Hid (∀ a, wpLoose P ops C Q kds m l a G → K a) → K (a.put o.dst undef)) : wpLoose P ops C Q (kd :: kds) (m + 1) (o :: l) a G :=
  ⟨fun u _ => u = undef, by unfold Gives; rw [if_neg (by rw [hw]; exact Bool.false_ne_true)], fun u ⟨_, hu⟩ => by subst hu; exact wpLoose_anti _ _ _ _ _ _ (fun _ h => h.1) (hK _ fun _ h => h)⟩
/-- A new block. -/
theorem new {W : World} {kds : List Kd} {m : Nat} {o : Oper} {l : List Oper} {a : Act} {G : World → Prop} (ob : Obj) (hw : Region.wanted o (yielded ops a.tmps) = true)
    (h : ∀ w, Cl W w → (execOp a.eval o).run P w = .ok (.value (.pointer (some ⟨w.heap.size, 0, none⟩))) (w.alloc ob))
    (hK : ∀ K : Act → Nat → Prop, Hid (∀ a b, wpLoose P ops (Cl W) Q kds m l a (fun w => G w ∧ W.heap.size ≤ b ∧ w.heap[b]? = some ob) → K a b) → ∀ b, W.heap.size ≤ b → K (a.put o.dst (.pointer (some ⟨b, 0, none⟩))) b) :
    wpLoose P ops (Cl W) Q (some (fun v w => ∃ b, v = .pointer (some ⟨b, 0, none⟩) ∧ W.heap.size ≤ b ∧ w.heap[b]? = some ob) :: kds) (m + 1) (o :: l) a G := by
  refine ⟨fun v w => ∃ b, v = .pointer (some ⟨b, 0, none⟩) ∧ W.heap.size ≤ b ∧ w.heap[b]? = some ob, ?_, ?_⟩
  · unfold Gives
    rw [if_pos hw]
    refine ⟨rfl, fun v w w' hb ⟨b, hv, h'⟩ => ⟨b, hv, Stable.block b ob W w w' hb h'⟩, fun w hc => ?_⟩
    rw [h w hc]
    refine ⟨⟨w.heap.size, rfl, hc.size, by show (w.heap.push ob)[w.heap.size]? = _; simp⟩, Below.alloc (Below.refl _ _) (Nat.le_refl _) _⟩
  · rintro u ⟨_, b, rfl, hb, _⟩
    refine wpLoose_anti _ _ _ _ _ _ ?_ (hK (fun a b => wpLoose P ops (Cl W) Q kds m l a (fun w => G w ∧ W.heap.size ≤ b ∧ w.heap[b]? = some ob)) (fun _ _ h => h) b hb)
    rintro w ⟨hg, b', e, h'⟩
    cases e
    exact ⟨hg, h'⟩

/-- What is told of every world of the region, laid once. -/
theorem facts {W : World} {F : World → Prop} {kds : List Kd} {m : Nat} {l : List Oper} {a : Act} {G : World → Prop} (hF : ∀ w', Cl W w' → F w') (h : Hid (∀ w', Cl W w' → F w') → wpLoose P ops (Cl W) Q kds m l a G) : wpLoose P ops (Cl W) Q kds m l a G := h hF
theorem c1 {W w' : World} (h : Cl W w') (b i : Nat) {x : Value} (hx : W.cell? ⟨b, i, none⟩ = some x) (hb : b < W.heap.size) : w'.cell? ⟨b, i, none⟩ = some x := (h.cell (p := ⟨b, i, none⟩) hb).trans hx
theorem c3 {W w' : World} (h : Cl W w') (b i j k : Nat) {x y z : Value} (hx : W.cell? ⟨b, i, none⟩ = some x) (hy : W.cell? ⟨b, j, none⟩ = some y) (hz : W.cell? ⟨b, k, none⟩ = some z) (hb : b < W.heap.size) :
    w'.cell? ⟨b, i, none⟩ = some x ∧ w'.cell? ⟨b, j, none⟩ = some y ∧ w'.cell? ⟨b, k, none⟩ = some z := ⟨c1 h b i hx hb, c1 h b j hy hb, c1 h b k hz hb⟩
theorem f3 {W w' : World} (h : Cl W w') (b i j k : Nat) (hx : W.frozen? ⟨b, i, none⟩ = false) (hy : W.frozen? ⟨b, j, none⟩ = false) (hz : W.frozen? ⟨b, k, none⟩ = false) (hb : b < W.heap.size) :
    w'.frozen? ⟨b, i, none⟩ = false ∧ w'.frozen? ⟨b, j, none⟩ = false ∧ w'.frozen? ⟨b, k, none⟩ = false := ⟨(h.frozen (p := ⟨b, i, none⟩) hb).trans hx, (h.frozen (p := ⟨b, j, none⟩) hb).trans hy, (h.frozen (p := ⟨b, k, none⟩) hb).trans hz⟩

theorem ret {f : FuncId} {args : Array Value} {V : Value → Prop} {w : World} (h : Ret P f args w V) : Upon P w (fun v _ => V v) (.ok (.enter f args) w) :=
  Calls.mono h fun _ _ ⟨v, he, hV, hb⟩ => ⟨v, he, hV, hb⟩
theorem fbin {V : Value → Prop} {op : BinOp} {t : TypeId} {x y : Nat} {w : World} (hop : op = .add ∨ op = .sub ∨ op = .mul ∨ op = .quo)
    (h : ∀ r, Eqv r (Fl.fbin op x y) → V (.float .f64 r)) :
    Upon P w (fun v _ => V v) ((Sem.run P (binOp op t (.float .f64 x) (.float .f64 y)) w).andThen fun a w' => Result.ok (Next.value a) w') := by
  obtain ⟨r, n, e, hr⟩ := run_fbin (P := P) op hop t x y w
  rw [e]
  exact ⟨h r hr, below_dr (Below.refl _ _) n⟩
theorem add {t : TypeId} {x y X Y : Nat} {w : World} (hx : Sm x X) (hy : Sm y Y) :
    Upon P w (fun v _ => isF (fadd X Y) v) ((Sem.run P (binOp .add t (.float .f64 x) (.float .f64 y)) w).andThen fun a w' => Result.ok (Next.value a) w') :=
  fbin (.inl rfl) fun r hr => ⟨r, rfl, hr.to (Sm.of_eq (fadd_congr hx hy))⟩
theorem sub {t : TypeId} {x y X Y : Nat} {w : World} (hx : Sm x X) (hy : Sm y Y) :
    Upon P w (fun v _ => isF (fsub X Y) v) ((Sem.run P (binOp .sub t (.float .f64 x) (.float .f64 y)) w).andThen fun a w' => Result.ok (Next.value a) w') :=
  fbin (.inr (.inl rfl)) fun r hr => ⟨r, rfl, hr.to (Sm.of_eq (fsub_congr hx hy))⟩
theorem mul {t : TypeId} {x y X Y : Nat} {w : World} (hx : Sm x X) (hy : Sm y Y) :
    Upon P w (fun v _ => isF (fmul X Y) v) ((Sem.run P (binOp .mul t (.float .f64 x) (.float .f64 y)) w).andThen fun a w' => Result.ok (Next.value a) w') :=
  fbin (.inr (.inr (.inl rfl))) fun r hr => ⟨r, rfl, hr.to (Sm.of_eq (fmul_congr hx hy))⟩
theorem div {t : TypeId} {x y X Y : Nat} {w : World} (hx : Sm x X) (hy : Sm y Y) :
    Upon P w (fun v _ => isF (fdiv X Y) v) ((Sem.run P (binOp .quo t (.float .f64 x) (.float .f64 y)) w).andThen fun a w' => Result.ok (Next.value a) w') :=
  fbin (.inr (.inr (.inr rfl))) fun r hr => ⟨r, rfl, hr.to (Sm.of_eq (fdiv_congr hx hy))⟩
end

theorem _root_.Go.Proofs.Ytagehemimlakpaa.Fl.Ret.of_same {P : Program} {f : FuncId} {args : Array Value} {w : World} {v : Value} (h : Calls P f args w fun e w' => e = .returned v ∧ w' = w) : Ret P f args w (fun u => u = v) :=
  Calls.mono h fun _ _ ⟨he, hw⟩ => ⟨v, he, rfl, hw ▸ Below.refl _ _⟩

/-- A block that is known whole. -/
theorem blk {w : World} {b : Nat} {vs : Array Value} {t : TypeId} (h : w.heap[b]? = some (.cells vs t)) : (∀ i, w.cell? ⟨b, i, none⟩ = vs[i]?) ∧ (∀ i, w.frozen? ⟨b, i, none⟩ = false) := by
  refine ⟨fun i => ?_, fun i => ?_⟩
  · unfold World.cell?; simp [h]
  · unfold World.frozen?; simp [h]
/-- All old cells and marks read as before: two rules for the walk. -/
theorem bcell {W w1 : World} (hb : Below W.heap.size W w1) : (∀ b o, b < W.heap.size → w1.cell? ⟨b, o, none⟩ = W.cell? ⟨b, o, none⟩) ∧ (∀ b o, b < W.heap.size → w1.frozen? ⟨b, o, none⟩ = W.frozen? ⟨b, o, none⟩) :=
  ⟨fun b o h => hb.cell (p := ⟨b, o, none⟩) h, fun b o h => hb.frozen (p := ⟨b, o, none⟩) h⟩
end Go.Proofs.Ytagehemimlakpaa.Lp

namespace Go.Proofs.Ytagehemimlakpaa.Lp
open Go.RowKit Fl

/-- Block b holds these cells. -/
def Bk (w : World) (b : Nat) (vs : Array Value) (t : TypeId) : Prop := w.heap[b]? = some (.cells vs t)
section
variable {w w' : World} {b : Nat} {vs : Array Value} {t : TypeId}
theorem Bk.cell (h : Bk w b vs t) : ∀ i, w.cell? ⟨b, i, none⟩ = vs[i]? := (blk h).1
theorem Bk.frz (h : Bk w b vs t) : ∀ i, w.frozen? ⟨b, i, none⟩ = false := (blk h).2
theorem Bk.lt (h : Bk w b vs t) : b < w.heap.size := (Array.getElem?_eq_some_iff.1 h).1
theorem Bk.keep (h : Bk w b vs t) (hb : Below w.heap.size w w') : Bk w' b vs t := (hb.block b h.lt).trans h
theorem Bk.al (w : World) (vs : Array Value) (t : TypeId) : Bk (w.alloc (.cells vs t)) w.heap.size vs t := by show (w.heap.push _)[w.heap.size]? = _; simp
theorem Bk.al1 (w : World) (o : Obj) (vs : Array Value) (t : TypeId) : Bk ((w.alloc o).alloc (.cells vs t)) (w.heap.size + 1) vs t := by have := Bk.al (w.alloc o) vs t; simpa using this
theorem Bk.al2 (w : World) (o o2 : Obj) (vs : Array Value) (t : TypeId) : Bk (((w.alloc o).alloc o2).alloc (.cells vs t)) (w.heap.size + 1 + 1) vs t := by have := Bk.al ((w.alloc o).alloc o2) vs t; simpa using this
theorem Bk.al3 (w : World) (o o2 o3 : Obj) (vs : Array Value) (t : TypeId) : Bk ((((w.alloc o).alloc o2).alloc o3).alloc (.cells vs t)) (w.heap.size + 1 + 1 + 1) vs t := by have := Bk.al (((w.alloc o).alloc o2).alloc o3) vs t; simpa using this
theorem Bk.alo (h : Bk w b vs t) (o : Obj) : Bk (w.alloc o) b vs t := h.keep ((Below.refl _ _).alloc (Nat.le_refl _) _)
theorem Bk.dr (h : Bk w b vs t) (n : Nat) : Bk (w.drewN n) b vs t := h
theorem Bk.drew (h : Bk w b vs t) : Bk w.drew b vs t := h
theorem Bk.set (h : Bk w b vs t) (i : Nat) (u : Value) : Bk (w.setCell ⟨b, i, none⟩ u) b (vs.setIfInBounds i u) t := by
  unfold Bk at *
  show (w.heap.modify b _)[b]? = _
  rw [Array.getElem?_modify, if_pos rfl, h]
  rfl
theorem Bk.seto (h : Bk w b vs t) {p : Addr} (hne : b ≠ p.block) (u : Value) : Bk (w.setCell p u) b vs t := (Below.heap_setCell w p u b hne).trans h
theorem Bk.set3 {y0 y1 y2 x0 x1 x2 : Value} (h : Bk w b #[y0, y1, y2] t) : Bk (((w.setCell ⟨b, 0, none⟩ x0).setCell ⟨b, 1, none⟩ x1).setCell ⟨b, 2, none⟩ x2) b #[x0, x1, x2] t :=
  ((h.set 0 x0).set 1 x1).set 2 x2
theorem Bk.set6 {y0 y1 y2 y3 y4 y5 x0 x1 x2 x3 x4 x5 : Value} (h : Bk w b #[y0, y1, y2, y3, y4, y5] t) : Bk ((((((w.setCell ⟨b, 0, none⟩ x0).setCell ⟨b, 1, none⟩ x1).setCell ⟨b, 2, none⟩ x2).setCell ⟨b, 3, none⟩ x3).setCell ⟨b, 4, none⟩ x4).setCell ⟨b, 5, none⟩ x5) b #[x0, x1, x2, x3, x4, x5] t :=
  (((((h.set 0 x0).set 1 x1).set 2 x2).set 3 x3).set 4 x4).set 5 x5
theorem Bk.set1 {y0 x0 : Value} (h : Bk w b #[y0] t) : Bk (w.setCell ⟨b, 0, none⟩ x0) b #[x0] t := h.set 0 x0
theorem Bk.cl (h : Bk w b vs t) (hb : Cl w w') : Bk w' b vs t := h.keep hb
end
/-- The rest of the walk, from a world of which this is known. -/
theorem settle {P : Program} {c : Code} {Q : Exit → Act → World → Prop} {a : Act} {w : World} (F : World → Prop) (hF : F w) (h : ∀ w', F w' → c.wp P Q a w') : c.wp P Q a w := h w hF
theorem settleC {P : Program} {f : FuncId} {args : Array Value} {K : Ending → World → Prop} {w : World} (F : World → Prop) (hF : F w) (h : ∀ w', F w' → Calls P f args w' K) : Calls P f args w K := h w hF
theorem settleU {P : Program} {o : Oper} {a : Act} {K : Act → World → Prop} {Q : Exit → Act → World → Prop} {v : Value} {w : World} (F : World → Prop) (hF : F w) (h : ∀ w', F w' → Oper.upon P o a K Q (.ok (.value v) w')) : Oper.upon P o a K Q (.ok (.value v) w) := h w hF
theorem wpLoose_facts {P : Program} {ops : Array Oper} {Q : Exit → Act → World → Prop} {W : World} {F : World → Prop} {kds : List Kd} {m : Nat} {l : List Oper} {a : Act} {G : World → Prop} (hF : ∀ w', Cl W w' → F w') (h : Hid (∀ w', Cl W w' → F w') → wpLoose P ops (Cl W) Q kds m l a G) : wpLoose P ops (Cl W) Q kds m l a G := h hF
end Go.Proofs.Ytagehemimlakpaa.Lp

namespace Go.Proofs.Ytagehemimlakpaa
open Go.RowKit Fl

/-- The direction of a sector. -/
def dirX (c s : Nat) : Nat → Nat
  | 0 => c | 1 => s | 2 => fsub 0 s | 3 => fsub 0 c | 4 => fsub 0 c | 5 => fsub 0 s | 6 => s | _ => c
def dirY (c s : Nat) : Nat → Nat
  | 0 => s | 1 => c | 2 => c | 3 => s | 4 => fsub 0 s | 5 => fsub 0 c | 6 => fsub 0 c | _ => fsub 0 s
abbrev dirs (c s mc ms : Nat) : Value := .agg #[.float .f64 c, .float .f64 s, .float .f64 s, .float .f64 c, .float .f64 ms, .float .f64 c, .float .f64 mc, .float .f64 s, .float .f64 mc, .float .f64 ms, .float .f64 ms, .float .f64 mc, .float .f64 s, .float .f64 mc, .float .f64 c, .float .f64 ms]

set_option maxRecDepth 100000 in
set_option maxHeartbeats 1000000 in
theorem dirs_num {c s : Nat} (hc : Num c) (hs : Num s) (w : World) : Calls Try.prog 46 #[.float .f64 c, .float .f64 s] w fun e w' => e = .returned (dirs c s (fsub 0 c) (fsub 0 s)) ∧ Below w.heap.size w w' := by
  have hm : ∀ w, _ := fun w => run_sub_num (P := Try.prog) w 22 num_zero hc
  have hn : ∀ w, _ := fun w => run_sub_num (P := Try.prog) w 22 num_zero hs
  clear hc hs
  generalize fsub 0 c = mc at *
  generalize fsub 0 s = ms at *
  go_enter Try.func46, Try.ntmps46
  go_wp2_with fail
  refine bodyPost_ret (v := dirs c s mc ms) (by simp [results, go_sem]) rfl ⟨rfl, (Below.refl _ _).alloc (Nat.le_refl _) _⟩

theorem dirs_at0 (c s mc ms : Nat) (w : World) : (Instr.index 59 (dirs c s mc ms) (.int .i64 0)).run Try.prog w = .ok (.agg #[.float .f64 c, .float .f64 s]) w := by kernel_rfl
theorem dirs_at1 (c s mc ms : Nat) (w : World) : (Instr.index 59 (dirs c s mc ms) (.int .i64 1)).run Try.prog w = .ok (.agg #[.float .f64 s, .float .f64 c]) w := by kernel_rfl
theorem dirs_at2 (c s mc ms : Nat) (w : World) : (Instr.index 59 (dirs c s mc ms) (.int .i64 2)).run Try.prog w = .ok (.agg #[.float .f64 ms, .float .f64 c]) w := by kernel_rfl
theorem dirs_at3 (c s mc ms : Nat) (w : World) : (Instr.index 59 (dirs c s mc ms) (.int .i64 3)).run Try.prog w = .ok (.agg #[.float .f64 mc, .float .f64 s]) w := by kernel_rfl
theorem dirs_at4 (c s mc ms : Nat) (w : World) : (Instr.index 59 (dirs c s mc ms) (.int .i64 4)).run Try.prog w = .ok (.agg #[.float .f64 mc, .float .f64 ms]) w := by kernel_rfl
theorem dirs_at5 (c s mc ms : Nat) (w : World) : (Instr.index 59 (dirs c s mc ms) (.int .i64 5)).run Try.prog w = .ok (.agg #[.float .f64 ms, .float .f64 mc]) w := by kernel_rfl
theorem dirs_at6 (c s mc ms : Nat) (w : World) : (Instr.index 59 (dirs c s mc ms) (.int .i64 6)).run Try.prog w = .ok (.agg #[.float .f64 s, .float .f64 mc]) w := by kernel_rfl
theorem dirs_at7 (c s mc ms : Nat) (w : World) : (Instr.index 59 (dirs c s mc ms) (.int .i64 7)).run Try.prog w = .ok (.agg #[.float .f64 c, .float .f64 ms]) w := by kernel_rfl
theorem dirs_at {c s : Nat} {k : Nat} (hk : k ≤ 7) (w : World) : (Instr.index 59 (dirs c s (fsub 0 c) (fsub 0 s)) (.int .i64 (k : Int))).run Try.prog w = .ok (.agg #[.float .f64 (dirX c s k), .float .f64 (dirY c s k)]) w := by
  have h : k = 0 ∨ k = 1 ∨ k = 2 ∨ k = 3 ∨ k = 4 ∨ k = 5 ∨ k = 6 ∨ k = 7 := by omega
  rcases h with rfl | rfl | rfl | rfl | rfl | rfl | rfl | rfl
  · exact dirs_at0 c s (fsub 0 c) (fsub 0 s) w
  · exact dirs_at1 c s (fsub 0 c) (fsub 0 s) w
  · exact dirs_at2 c s (fsub 0 c) (fsub 0 s) w
  · exact dirs_at3 c s (fsub 0 c) (fsub 0 s) w
  · exact dirs_at4 c s (fsub 0 c) (fsub 0 s) w
  · exact dirs_at5 c s (fsub 0 c) (fsub 0 s) w
  · exact dirs_at6 c s (fsub 0 c) (fsub 0 s) w
  · exact dirs_at7 c s (fsub 0 c) (fsub 0 s) w

/-- A pair in memory. -/
def Two (w : World) (b x y : Nat) : Prop := w.heap[b]? = some (.cells #[.float .f64 x, .float .f64 y] 58)
theorem Two.cells {w : World} {b x y : Nat} (h : Two w b x y) : w.cell? ⟨b, 0, none⟩ = some (.float .f64 x) ∧ w.cell? ⟨b, 1, none⟩ = some (.float .f64 y) ∧ b < w.heap.size := by
  unfold Two at h
  have hlt : b < w.heap.size := by
    rcases Nat.lt_or_ge b w.heap.size with k | k
    · exact k
    · rw [Array.getElem?_eq_none k] at h; cases h
  refine ⟨?_, ?_, hlt⟩
  · exact (Lp.blk h).1 0
  · exact (Lp.blk h).1 1
theorem Two.keep {w w' : World} {b x y : Nat} (h : Two w b x y) (hb : Below w.heap.size w w') : Two w' b x y := (hb.block b h.cells.2.2).trans h

set_option maxRecDepth 100000 in
set_option maxHeartbeats 1000000 in
theorem turn_num {x y r : Nat} (hx : Num x) (hy : Num y) (hr : Num r) {b : Nat} {w : World} (h : Two w b x y) : Calls Try.prog 47 #[.float .f64 r, .pointer (some ⟨b, 0, none⟩)] w fun e w' => e = .returned (.tuple #[.float .f64 (fmul x r), .float .f64 (fmul y r)]) ∧ Below w.heap.size w w' := by
  have HX := hid (prod_num hx hr)
  have HY := hid (prod_num hy hr)
  obtain ⟨c0, c1, hlt⟩ := h.cells
  clear hx hy hr h
  generalize fmul x r = X at *
  generalize fmul y r = Y at *
  go_enter Try.func47, Try.ntmps47
  go_wp2_with fail
  go_quiet ((go_at_call 37; first | exact Calls.quiet_of_same (HX.out _) | exact Calls.quiet_of_same (HY.out _)))
  go_wp2_with fail
  refine bodyPost_ret (v := .tuple #[.float .f64 X, .float .f64 Y]) (by simp [results, go_sem]) rfl ⟨rfl, below_dr (Below.refl _ _) _⟩
end Go.Proofs.Ytagehemimlakpaa

namespace Go.Proofs.Ytagehemimlakpaa
open Go.RowKit Fl

theorem conv_small8 {p : Nat} {k : Nat} (hk : k ≤ 7) (h : truncF p = (k : Int)) (hn : Num p) (h0 : 0 ≤ val p) : floatToIntVal .f64 p .i64 = some (k : Int) := by
  have e := trunc_floor hn h0
  have e' : truncF p = (val p).floor := by unfold truncF; rw [e]; rfl
  unfold floatToIntVal
  rw [show (FloatKind.f64.decode p).toInt .zero = some (val p).floor from e, ← e', h]
  have lo : IntKind.i64.min = -9223372036854775808 := by decide +kernel
  have hi : IntKind.i64.max = 9223372036854775807 := by decide +kernel
  dsimp only
  rw [lo, hi, if_pos ⟨by omega, by omega⟩]
theorem convI {m : Nat} {z : Int} (h : floatToIntVal .f64 m .i64 = some z) (w : World) : (convert 22 3 (.float .f64 m)).run Try.prog w = .ok (.int .i64 z) w :=
  run_convert_float_int (w := w) _ _ _ _ _ _ (by rw [Try.underlying22]; rfl) Try.underlying3 h

theorem two_new (w : World) (x y : Nat) : Two (w.alloc (.cells #[.float .f64 x, .float .f64 y] 58)) w.heap.size x y := by
  exact Lp.Bk.al _ _ _

/-- All that is known of a clean draw's sector. -/
structure Sect (c : Nat) : Prop where
  k7 : secK c ≤ 7
  n8 : Num (fmul w8 c)
  conv : floatToIntVal .f64 (fmul w8 c) .i64 = some (secK c : Int)
  nk : Num (floatOfInt .f64 (secK c : Int))
  nf : Num (secF c)
  f0 : 0 ≤ val (secF c)
  f1 : val (secF c) ≤ 1
  nff : Num (fmul (secF c) (secF c))
  sec : Sec (secF c)
theorem sect {c : Nat} (hc : Num c) (c0 : 0 ≤ val c) (c1 : val c < 1) : Sect c := by
  obtain ⟨n8, v8⟩ := eight_ex hc c0 c1
  obtain ⟨t, k7, _, _⟩ := sec_k hc c0 c1
  obtain ⟨nk, _⟩ := ofint_val (n := (secK c : Int)) (by omega) (by omega)
  obtain ⟨nf, f0, f1⟩ := sec_f hc c0 c1
  exact ⟨k7, n8, conv_small8 k7 t n8 (by rw [v8]; grind), nk, nf, f0, f1, (unit_mul nf nf f0 f1 f0 f1).1, sec_vals nf f0 f1⟩

abbrev secX (c : Nat) : Nat := dirX (secC (secF c)) (secS (secF c)) (secK c)
abbrev secY (c : Nat) : Nat := dirY (secC (secF c)) (secS (secF c)) (secK c)
theorem dir_unit {c s : Nat} (h : Unit2 c s) (k : Nat) : Unit2 (dirX c s k) (dirY c s k) := by
  unfold dirX dirY
  split
  · exact h
  · exact h.swap
  · exact h.swap.negx
  · exact h.negx
  · exact h.negx.negy
  · exact h.swap.negx.negy
  · exact h.swap.negy
  · exact h.negy
theorem Sect.unit {c : Nat} (h : Sect c) : Unit2 (secX c) (secY c) := dir_unit h.sec.unit _

set_option maxRecDepth 100000 in
set_option maxHeartbeats 1000000 in
theorem around_any (u : Nat) (w : World) : Calls Try.prog 43 #[.float .f64 u] w fun e w' => ∃ b, e = .returned (.tuple #[.func (.func 47) #[] #[.pointer (some ⟨b, 0, none⟩)], .float .f64 (densF (secF (cleanF u)))]) ∧ Two w' b (secX (cleanF u)) (secY (cleanF u)) ∧ w.heap.size ≤ b ∧ Below w.heap.size w w' := by
  have HC := hid (clean_any u)
  obtain ⟨nc, c0, c1⟩ := clean_num u
  generalize cleanF u = c at *
  have S := sect nc c0 c1
  have HP := hid (prod_num num_w8 nc)
  unfold w8 at HP
  have HV : ∀ w, _ := fun w => convI S.conv w
  have hs : ∀ w, (binOp .sub 22 (.float .f64 (fmul 4620693217682128896 c)) (.float .f64 (floatOfInt .f64 (secK c : Int)))).run Try.prog w = .ok (.float .f64 (secF c)) w := fun w => run_sub_num w 22 S.n8 S.nk
  have HT := hid (stretch_num S.nf S.nff)
  have HR := hid (root_num S.sec.nq (by have := S.sec.q0; have := dl_le; grind))
  have hz : val (fsqrt (secQ (secF c))) ≠ 0 := by have h := S.sec.d0; unfold secD at h; clear HC HP HV hs HT HR; grind
  have hq1 : ∀ w, (binOp .quo 22 (.float .f64 4607182418800017408) (.float .f64 (fsqrt (secQ (secF c))))).run Try.prog w = .ok (.float .f64 (secC (secF c))) w := fun w => run_quo_num w 22 num_w1 S.sec.nd hz
  have hq2 : ∀ w, (binOp .quo 22 (.float .f64 (secF c)) (.float .f64 (fsqrt (secQ (secF c))))).run Try.prog w = .ok (.float .f64 (secS (secF c))) w := fun w => run_quo_num w 22 S.nf S.sec.nd hz
  have HD := hid (dirs_num S.sec.nc S.sec.ns)
  have hi : ∀ w, _ := fun w => dirs_at (c := secC (secF c)) (s := secS (secF c)) S.k7 w
  have HN := hid (density_num S.nf S.nff S.sec.nq)
  unfold w8 at HV
  clear S nc c0 c1 hz
  unfold secX secY
  generalize densF (secF c) = p at *
  generalize secC (secF c) = C at *
  generalize secS (secF c) = Z at *
  generalize fsqrt (secQ (secF c)) = d at *
  generalize secQ (secF c) = q at *
  generalize secF c = f at *
  generalize fmul 4620693217682128896 c = e8 at *
  generalize dirX C Z (secK c) = X at *
  generalize dirY C Z (secK c) = Y at *
  generalize hMC : fsub 0 C = MC at *
  generalize hMZ : fsub 0 Z = MZ at *
  clear hMC hMZ
  generalize secK c = k at *
  go_enter Try.func43, Try.ntmps43
  go_wp2_with fail
  refine Calls.mono (HC.out _) ?_
  rintro e w' ⟨rfl, hw⟩
  obtain rfl := hw.symm
  clear hw
  go_wp2_with fail
  refine Calls.mono (HP.out _) ?_
  rintro e w' ⟨rfl, hw⟩
  obtain rfl := hw.symm
  clear hw
  go_wp2_with fail
  refine Calls.mono (HT.out _) ?_
  rintro e w' ⟨rfl, hw⟩
  obtain rfl := hw.symm
  clear hw
  go_wp2_with fail
  refine Calls.mono (HR.out _) ?_
  rintro e w' ⟨rfl, hw⟩
  obtain rfl := hw.symm
  clear hw
  go_wp2_with fail
  refine Calls.mono (HD.out _) ?_
  rintro e w1 ⟨rfl, hb⟩
  have HB := hid hb
  clear hb
  go_wp2_with fail
  refine Calls.mono (HN.out _) ?_
  rintro e w' ⟨rfl, hw⟩
  obtain rfl := hw.symm
  clear hw
  go_wp2_with fail
  refine bodyPost_ret (v := .tuple #[.func (.func 47) #[] #[.pointer (some ⟨w1.heap.size, 0, none⟩)], .float .f64 p]) (by simp [results, go_sem]) rfl ⟨_, rfl, ?_, HB.out.size, HB.out.alloc HB.out.size _⟩
  exact two_new _ _ _
end Go.Proofs.Ytagehemimlakpaa

namespace Go.Proofs.Ytagehemimlakpaa
open Go.RowKit Fl

theorem mul_one' {x : Nat} (hx : Num x) : Num (fmul x Fl.w1) ∧ val (fmul x Fl.w1) = val x := by
  have hx0 := hx
  obtain ⟨s, m, e, hr⟩ := hx
  obtain ⟨b1, b2⟩ := number_bounds hr
  have hv : val x * val Fl.w1 = dval (.number s m e) := by
    rw [val_w1, Rat.mul_one]; unfold val; rw [hr]
  obtain ⟨n, v⟩ := mul_ex hx0 num_w1 ⟨s, m, e, by omega, read_low hr, b2, hv⟩
  exact ⟨n, by rw [v, val_w1, Rat.mul_one]⟩
theorem unit_one {x y : Nat} (h : Unit2 x y) : Unit2 (fmul x Fl.w1) (fmul y Fl.w1) := by
  obtain ⟨a, b⟩ := mul_one' h.nx
  obtain ⟨c, d⟩ := mul_one' h.ny
  exact ⟨a, c, by rw [b]; exact h.ax, by rw [d]; exact h.ay, by rw [b, d]; exact h.len⟩
theorem add_same {x y u v : Nat} (hx : Num x) (hy : Num y) (hu : Num u) (hv : Num v) (h : val x + val y = val u + val v) (hn : Num (fadd u v)) : Num (fadd x y) ∧ val (fadd x y) = val (fadd u v) :=
  num_between hn (add_mono hx hy hu hv (rat_le_of_eq h)) (add_mono hu hv hx hy (rat_le_of_eq h.symm))
/-- The greater and the lesser of a direction's numbers without signs. -/
theorem pick_vals {a b : Nat} {C S : Rat} (ha : Num a) (hb : Num b) (h : (val (fabs a) = C ∧ val (fabs b) = S) ∨ (val (fabs a) = S ∧ val (fabs b) = C)) (hs : S ≤ C) : val (maxF (fabs a) (fabs b)) = C ∧ val (minF (fabs a) (fabs b)) = S := by
  obtain ⟨e1, e2⟩ := abs_pick (not_nan_num ha) (not_nan_num hb)
  have l : steepB a b = decide (val (fabs a) < val (fabs b)) := lt_val (abs_num ha).1 (abs_num hb).1
  rw [e1, e2, l]
  by_cases k : val (fabs a) < val (fabs b)
  · rw [decide_eq_true k]
    simp only [if_true]
    rcases h with ⟨h1, h2⟩ | ⟨h1, h2⟩
    · exfalso; grind
    · exact ⟨h2, h1⟩
  · rw [decide_eq_false k]
    simp only [Bool.false_eq_true, if_false]
    rcases h with ⟨h1, h2⟩ | ⟨h1, h2⟩
    · exact ⟨h1, h2⟩
    · exact ⟨by grind, by grind⟩
theorem dir_abs {C S k : Nat} (hC : Num C) (hS : Num S) (c0 : 0 ≤ val C) (s0 : 0 ≤ val S) {a b : Nat} (ha : Num a) (hb : Num b) (ea : val a = val (dirX C S k)) (eb : val b = val (dirY C S k)) : (val (fabs a) = val C ∧ val (fabs b) = val S) ∨ (val (fabs a) = val S ∧ val (fabs b) = val C) := by
  obtain ⟨_, vC⟩ := neg_val hC
  obtain ⟨_, vS⟩ := neg_val hS
  obtain ⟨_, _, _, a0, a1⟩ := abs_num ha
  obtain ⟨_, _, _, b0, b1⟩ := abs_num hb
  rw [ea] at a1
  rw [eb] at b1
  have h : k = 0 ∨ k = 1 ∨ k = 2 ∨ k = 3 ∨ k = 4 ∨ k = 5 ∨ k = 6 ∨ 7 ≤ k := by omega
  clear ea eb
  rcases h with rfl | rfl | rfl | rfl | rfl | rfl | rfl | h
  · left; rw [show dirX C S 0 = C from rfl] at a1; rw [show dirY C S 0 = S from rfl] at b1; constructor <;> grind
  · right; rw [show dirX C S 1 = S from rfl] at a1; rw [show dirY C S 1 = C from rfl] at b1; constructor <;> grind
  · right; rw [show dirX C S 2 = fsub 0 S from rfl, vS] at a1; rw [show dirY C S 2 = C from rfl] at b1; constructor <;> grind
  · left; rw [show dirX C S 3 = fsub 0 C from rfl, vC] at a1; rw [show dirY C S 3 = S from rfl] at b1; constructor <;> grind
  · left; rw [show dirX C S 4 = fsub 0 C from rfl, vC] at a1; rw [show dirY C S 4 = fsub 0 S from rfl, vS] at b1; constructor <;> grind
  · right; rw [show dirX C S 5 = fsub 0 S from rfl, vS] at a1; rw [show dirY C S 5 = fsub 0 C from rfl, vC] at b1; constructor <;> grind
  · right; rw [show dirX C S 6 = S from rfl] at a1; rw [show dirY C S 6 = fsub 0 C from rfl, vC] at b1; constructor <;> grind
  · left
    obtain ⟨j, rfl⟩ : ∃ j, k = j + 7 := ⟨k - 7, by omega⟩
    rw [show dirX C S (j + 7) = C from rfl] at a1
    rw [show dirY C S (j + 7) = fsub 0 S from rfl, vS] at b1
    constructor <;> grind
/-- The density of a draw's direction is the draw's, nearly. -/
theorem back_near {c : Nat} (h : Sect c) : Num (densF (shareF (fabs (fmul (secX c) Fl.w1)) (fabs (fmul (secY c) Fl.w1)))) ∧ Num (densF (secF c)) ∧ Ab (val (densF (shareF (fabs (fmul (secX c) Fl.w1)) (fabs (fmul (secY c) Fl.w1)))) - val (densF (secF c))) (12 * dl) := by
  have U := h.unit
  have V := unit_one U
  obtain ⟨na, va⟩ := mul_one' U.nx
  obtain ⟨nb, vb⟩ := mul_one' U.ny
  have hS := h.sec
  have d0 : 0 < val (secD (secF c)) := by have := hS.d0; grind
  have c0 : 0 < val (secC (secF c)) := by have := hS.c0; grind
  have s0 : 0 ≤ val (secS (secF c)) := by
    have l := div_mono num_zero h.nf hS.nd d0 (by rw [val_zero]; exact Rat.le_refl) (by rw [val_zero]; exact h.f0)
    rw [fdiv_zero hS.nd d0] at l
    have l2 : leB 0 (secS (secF c)) = true := l
    rw [leB_val num_zero hS.ns, val_zero] at l2
    exact of_decide_eq_true l2
  have sc : val (secS (secF c)) ≤ val (secC (secF c)) := by
    have l := div_mono h.nf num_w1 hS.nd d0 h.f0 (by rw [val_w1]; exact h.f1)
    have l2 : leB (secS (secF c)) (secC (secF c)) = true := l
    rw [leB_val hS.ns hS.nc] at l2
    exact of_decide_eq_true l2
  have q := dir_abs hS.nc hS.ns (by grind) s0 na nb va vb
  obtain ⟨m1, m2⟩ := pick_vals na nb q sc
  obtain ⟨f1, f2, f3, f4, f5⟩ := share_good na nb (by
    intro e
    obtain ⟨n1, _⟩ := abs_num na
    obtain ⟨n2, _⟩ := abs_num nb
    have nm : Num (maxF (fabs (fmul (secX c) Fl.w1)) (fabs (fmul (secY c) Fl.w1))) := by
      rw [(abs_pick (not_nan_num na) (not_nan_num nb)).1]
      split
      · exact n2
      · exact n1
    have g := gt_val nm num_zero
    rw [e, m1, val_zero, decide_eq_true c0] at g
    exact absurd g (by decide))
  have hsh : shareF (fabs (fmul (secX c) Fl.w1)) (fabs (fmul (secY c) Fl.w1)) = fdiv (minF (fabs (fmul (secX c) Fl.w1)) (fabs (fmul (secY c) Fl.w1))) (maxF (fabs (fmul (secX c) Fl.w1)) (fabs (fmul (secY c) Fl.w1))) := by
    unfold shareF
    rw [num_fin (abs_num na).1, num_fin (abs_num nb).1]
    have : (ford (maxF (fabs (fmul (secX c) Fl.w1)) (fabs (fmul (secY c) Fl.w1))) 0 == some .eq) = false := by
      have g := gt_val f1 num_zero
      rw [m1, val_zero, decide_eq_true c0] at g
      rw [beq_iff_eq] at g
      rw [g]; rfl
    rw [this]
    rfl
  obtain ⟨n1, _, p0, p1, _⟩ := share_same (fmul (secX c) Fl.w1) (fmul (secY c) Fl.w1)
  have ev := div_same f2 f1 hS.ns hS.nc f4 f5 f3 m2 m1
  rw [← hsh] at ev
  obtain ⟨d1, d2, d3⟩ := dens_back h.nf h.f0 h.f1
  obtain ⟨nq, _, _⟩ := div_unit hS.ns hS.nc s0 sc c0
  obtain ⟨_, _, e1, _, _, _, e2⟩ := dens_same n1 nq p0 p1 ev
  exact ⟨e1, d2, by rw [e2]; exact d3⟩
end Go.Proofs.Ytagehemimlakpaa
