/- The reference: First, Any. A range over a function, in the plain walk: the statement; its round; what is kept by what a round does. Package bvh: around, amid: the box of all that a list names, and of their middles. How two numbers of triangles are held against each other: cmp.Compare, cmp.Or, and the function of an axis. What a call owns: rows that lie apart, from some block on; what append leaves. The types' data. -/
import Derived.Deep.LoopGhost
import Derived.RangeFuncNested
import Derived.RangeFuncBound
import Derived.RangeFuncLeaves
import Derived.Sort.Grow
import Derived.Laws.MakeOwn
import Derived.Test.YtiblmojdjnfoaaaGreatG15
import Derived.Test.YtiblmojdjnfoaaaGreatG13
import Derived.Test.YtiblmojdjnfoaaaGreatG7
import Derived.Test.YtiblmojdjnfoaaaGreatG14
import Derived.Test.YtiblmojdjnfoaaaGreatG10
namespace Go.Proofs.YtiblmojdjnfoaaaGreat
open Go.RowKit Fl Lm

theorem rangeQ {j n : Nat} (h : j < n) : List.range' j (n - j) = j :: List.range' (j + 1) (n - (j + 1)) := by
  rw [show n - j = (n - (j + 1)) + 1 by omega, List.range'_succ]
theorem rangeQ_end {j n : Nat} (h : ¬ j < n) : List.range' j (n - j) = [] := by
  rw [show n - j = 0 by omega]; rfl
theorem hcsQ (b : Hit) : ∃ b0 b1 b2 b3, hcs b = #[.int .i64 b0, .float .f64 b1, .float .f64 b2, .float .f64 b3] := by rcases b with _ | ⟨i, h⟩ <;> exact ⟨_, _, _, _, rfl⟩
theorem rmeet_c (O D : V3) (t : Tr) (w : World) : Ret Tryz.prog 24 #[.agg #[.float .f64 t.t0, .float .f64 t.t1, .float .f64 t.t2, .float .f64 t.t3, .float .f64 t.t4, .float .f64 t.t5, .float .f64 t.t6, .float .f64 t.t7, .float .f64 t.t8], .agg #[.float .f64 O.x, .float .f64 O.y, .float .f64 O.z, .float .f64 D.x, .float .f64 D.y, .float .f64 D.z]] w (fun v => v = outM (meetT O D t)) := rmeet_any (trA t) (trB t) (trC t) O D w
/-- None of the first m is j. -/
def neB (K : List Int) (j : Int) : Nat → Bool
  | 0 => true
  | m + 1 => neB K j m && decide (K.getD m 0 ≠ j)
theorem neB_all (K : List Int) (j : Int) : ∀ m, neB K j m = true ↔ ∀ i, i < m → K.getD i 0 ≠ j
  | 0 => ⟨fun _ _ h => absurd h (Nat.not_lt_zero _), fun _ => rfl⟩
  | m + 1 => by
    unfold neB
    rw [Bool.and_eq_true, neB_all K j m, decide_eq_true_eq]
    exact ⟨fun h i hi => (Nat.lt_succ_iff_lt_or_eq.1 hi).elim (h.1 i) (fun e => e ▸ h.2), fun h => ⟨fun i hi => h i (by omega), h m (by omega)⟩⟩
theorem neB_end (K : List Int) (j : Int) : neB K j K.length = decide (j ∉ K) := by
  rw [Bool.eq_iff_iff, neB_all, decide_eq_true_eq]
  constructor
  · intro h hm
    obtain ⟨i, hi, e⟩ := List.getElem_of_mem hm
    refine h i hi ?_
    rw [List.getD_eq_getElem?_getD, List.getElem?_eq_getElem hi, ← e]
    rfl
  · intro h i hi e
    refine h ?_
    rw [← e, List.getD_eq_getElem?_getD, List.getElem?_eq_getElem hi]
    exact List.getElem_mem hi
theorem metK_some {T : Nat → Tr} {K : List Int} {O D : V3} {i : Nat} (b : Bool) (hb : b = ((meetT O D (T i)).isSome && neB K (i : Int) K.length)) : (b = true → metK T K O D i = meetT O D (T i) ∧ (meetT O D (T i)).isSome = true) ∧ (b = false → metK T K O D i = none) := by
  rw [neB_end] at hb
  unfold metK
  constructor
  · intro e
    rw [e] at hb
    have h : (meetT O D (T i)).isSome = true ∧ decide ((i : Int) ∉ K) = true := by simpa using hb.symm
    rw [if_neg (of_decide_eq_true h.2)]
    exact ⟨rfl, h.1⟩
  · intro e
    rw [e] at hb
    split
    · rfl
    · rename_i hk
      rw [decide_eq_true hk, Bool.and_true] at hb
      cases h : meetT O D (T i) with
      | none => rfl
      | some g => rw [h] at hb; cases hb

set_option maxRecDepth 100000 in
set_option maxHeartbeats 4000000 in
theorem rany_c (T : Nat → Tr) (n c cs t0 : Nat) (K : List Int) (O D : V3) (ao az : Option Addr) (w : World)
    (hL : Sl w ao n 9 fun i => tcs (T i)) (hK : Sl w az K.length 1 (kvs K)) (hn : n ≤ 1000) (h5 : K.length ≤ 1000) :
    Calls Tryz.prog 12 #[.slice ao n c, .agg #[.float .f64 O.x, .float .f64 O.y, .float .f64 O.z, .float .f64 D.x, .float .f64 D.y, .float .f64 D.z], .float .f64 t0, .slice az K.length cs] w fun e W' => e = .returned (.bool (anyN (metK T K O D) n t0)) ∧ Cl w W' := by
  have HL := hid hL
  have HK := hid hK
  have HK5 := aside h5
  clear hL hK
  go_enter Tryz.func12, Tryz.ntmps12
  go_wp2_with fail
  go_loopg [9] n (fun k i wr => ∃ j : Nat, k + j = n ∧ i = .int .i64 (j : Int) ∧ Free (metK T K O D) n t0 (List.range' j (n - j)) ∧ Lp.Bk wr w.heap.size #[.float .f64 O.x, .float .f64 O.y, .float .f64 O.z, .float .f64 D.x, .float .f64 D.y, .float .f64 D.z] 27 ∧ Cl w wr)
  case atStart => exact ⟨0, Nat.add_zero _, rfl, fun i hi => .inl (by rw [Nat.sub_zero, ← List.range_eq_range']; exact List.mem_range.2 hi), Lp.Bk.al _ _ _, (Below.refl _ _).alloc (Nat.le_refl _) _⟩
  case round =>
    obtain ⟨g0, hg0⟩ : ∃ g0, g0 = gk := ⟨_, rfl⟩
    subst hg0
    obtain ⟨wo, hwo⟩ : ∃ wo, wo = wr := ⟨_, rfl⟩
    subst hwo
    obtain ⟨j, hk, rfl, hFree, BY, HB⟩ := hrel
    have HP := aside hk
    have HFR := aside hFree
    clear hk hFree
    by_cases hj : j < n
    · have hd : ((j : Int) < (n : Int)) = True := eq_true (by omega)
      have hj5 : j < 1000 := by omega
      obtain ⟨gz, oz, haz, EZ0⟩ := HL.out.get hj
      subst haz
      have EZ := hid (EZ0.keep HB)
      clear EZ0
      have HMT := hid (fun w' => rmeet_c O D (T j) w')
      generalize htt : T j = t at HMT
      have HT := aside htt
      clear htt
      have hM : ∃ x y z b0, outM (meetT O D t) = .tuple #[.float .f64 x, .float .f64 y, .float .f64 z, .bool b0] ∧ b0 = (meetT O D t).isSome ∧ ∀ h, meetT O D t = some h → x = h.x ∧ y = h.y ∧ z = h.z := by
        cases meetT O D t with
        | none => exact ⟨_, _, _, _, rfl, rfl, fun _ h => by cases h⟩
        | some h => exact ⟨_, _, _, _, rfl, rfl, fun _ e => by cases e; exact ⟨rfl, rfl, rfl⟩⟩
      obtain ⟨mx, my, mz, mb, e5, e6, e7⟩ := hM
      rw [e5] at HMT
      have HMM := aside (And.intro e6 e7)
      clear e5 e6 e7
      have HJ := aside hj
      clear hj
      go_wp2_with fail
      apply Lw.region _ _ 15 (by kernel_rfl) (by kernel_rfl) (by kernel_rfl) (Below.refl _ _)
      apply Lw.facts
      · intro w1 hw
        exact And.intro (BY.cl hw).cell (tat (EZ.out.keep hw) HJ.out)
      intro HF
      iterate 5 (
        apply Lw.one ?_ rfl
        · intro w3 hw
          obtain ⟨k1, k2⟩ := HF.out _ hw
          rw [HT.out] at k2
          obtain ⟨t0, t1, t2, t3, t4, t5, t6, t7, t8⟩ := k2
          go_simp
          exact rfl
        intro K0 hK0
        go_simp
        refine hK0.out _ ?_
        clear hK0 K0)
      apply Lw.any rfl
      · intro w3 hw
        go_simp
        exact Lw.ret (HMT.out _)
      intro K0 hK0
      rintro v rfl
      go_simp
      refine hK0.out _ ?_
      clear hK0 K0
      iterate 9 (
        apply Lw.one ?_ rfl
        · intro w3 hw
          go_simp
          exact rfl
        intro K0 hK0
        go_simp
        refine hK0.out _ ?_
        clear hK0 K0)
      rotate_left
      exact []
      refine Lw.fin ?_
      intro v3 hm
      have HB3 := hid (HB.call hm)
      have HBY := hid (BY.keep hm)
      clear hm HF BY HB EZ HMT
      go_wp2_with fail
      go_loopg [13, 14] K.length (fun k o i wr => ∃ (m : Nat) (b : Bool), k + m = K.length ∧ i = .int .i64 (m : Int) ∧ o = .bool b ∧ b = (mb && neB K (j : Int) m) ∧ wr = v3)
      case atStart => exact ⟨0, mb, Nat.add_zero _, rfl, rfl, by simp [neB], rfl⟩
      case round =>
        obtain ⟨g1, hg1⟩ : ∃ g1, g1 = gk := ⟨_, rfl⟩
        subst hg1
        obtain ⟨m, b, hk1, rfl, rfl, hbv, hwr⟩ := hrel
        subst hwr
        have HP1 := aside hk1
        have HBV := aside hbv
        clear hk1 hbv
        by_cases hm1 : m < K.length
        · have hd1 : ((m : Int) < (K.length : Int)) = True := eq_true (by omega)
          have hm5 : m < 1000 := by have := HK5.out; omega
          have HM1 := aside hm1
          cases b with
          | false =>
            have HNX := aside (show false = (mb && neB K (j : Int) (m + 1)) by unfold neB; rw [← Bool.and_assoc, ← HBV.out, Bool.false_and])
            clear hm1
            go_wp2_with fail
            go_roundg (g1 - 1)
            case measure => have := HP1.out; have := HM1.out; omega
            case rel => exact ⟨m + 1, false, by have := HP1.out; have := HM1.out; omega, by go_num, rfl, HNX.out, rfl⟩
          | true =>
            obtain ⟨gk1, ok1, hak, EK⟩ := HK.out.get hm1
            have kK := kat (EK.keep HB3.out) hm1
            subst hak
            clear EK
            by_cases hx : K.getD m 0 = (j : Int)
            · have HNX := aside (show false = (mb && neB K (j : Int) (m + 1)) by unfold neB; rw [← Bool.and_assoc, ← HBV.out, Bool.true_and, decide_eq_false (by rw [hx]; exact fun h => h rfl)])
              rw [hx] at kK
              clear hm1 hx
              go_wp2_with fail
              go_roundg (g1 - 1)
              case measure => have := HP1.out; have := HM1.out; omega
              case rel => exact ⟨m + 1, false, by have := HP1.out; have := HM1.out; omega, by go_num, rfl, HNX.out, rfl⟩
            · have HNX := aside (show true = (mb && neB K (j : Int) (m + 1)) by unfold neB; rw [← Bool.and_assoc, ← HBV.out, Bool.true_and, decide_eq_true hx])
              generalize hy : K.getD m 0 = y at kK hx
              have hx1 : (y = (j : Int)) = False := eq_false hx
              have hx2 : (y == (j : Int)) = false := beq_eq_false_iff_ne.2 hx
              have hx3 : (y != (j : Int)) = true := bne_iff_ne.2 hx
              clear hm1 hy
              go_wp2_with fail
              go_roundg (g1 - 1)
              case measure => have := HP1.out; have := HM1.out; omega
              case rel => exact ⟨m + 1, true, by have := HP1.out; have := HM1.out; omega, by go_num, rfl, HNX.out, rfl⟩
        · have hd1 : ((m : Int) < (K.length : Int)) = False := eq_false (by omega)
          obtain rfl : m = K.length := by have := HP1.out; omega
          have hMK := metK_some (T := T) (K := K) (O := O) (D := D) (i := j) b (by rw [HT.out, HBV.out, HMM.out.1])
          rw [HT.out] at hMK
          clear hm1
          cases b with
          | false =>
            have hMN := hMK.2 rfl
            have HST := aside (show Free (metK T K O D) n t0 (List.range' (j + 1) (n - (j + 1))) from fun i hi => by
              have h := HFR.out i hi
              rw [rangeQ HJ.out] at h
              rcases h with h | h
              · rcases List.mem_cons.1 h with rfl | h
                · refine .inr ?_
                  rw [hMN]
                  rfl
                · exact .inl h
              · exact .inr h)
            clear hMK hMN
            go_wp2_with fail
            go_roundg (g0 - 1)
            case measure => have := HP.out; have := HJ.out; omega
            case rel => exact ⟨j + 1, by have := HP.out; have := HJ.out; omega, by go_num, HST.out, HBY.out, HB3.out⟩
          | true =>
            obtain ⟨hM1, hM2⟩ := hMK.1 rfl
            obtain ⟨h, hh⟩ := Option.isSome_iff_exists.1 hM2
            have ex := (HMM.out.2 h hh).1
            have hbl : blkB t0 (metK T K O D j) = ltC mx t0 := by rw [hM1, hh, ex]; rfl
            have hc0 := lt_w (Sm.refl mx) (Sm.refl t0)
            cases hl : ltC mx t0 with
            | false =>
              rw [hl] at hc0 hbl
              have HST := aside (show Free (metK T K O D) n t0 (List.range' (j + 1) (n - (j + 1))) from fun i hi => by
                have h := HFR.out i hi
                rw [rangeQ HJ.out] at h
                rcases h with h | h
                · rcases List.mem_cons.1 h with rfl | h
                  · exact .inr hbl
                  · exact .inl h
                · exact .inr h)
              clear hMK hM1 hM2 hh ex hbl hl
              go_wp2_with fail
              go_roundg (g0 - 1)
              case measure => have := HP.out; have := HJ.out; omega
              case rel => exact ⟨j + 1, by have := HP.out; have := HJ.out; omega, by go_num, HST.out, HBY.out, HB3.out⟩
            | true =>
              rw [hl] at hc0 hbl
              have HST := aside (any_some (metK T K O D) n HJ.out hbl)
              clear hMK hM1 hM2 hh ex hbl hl
              go_wp2_with fail
              go_ret
              exact ⟨by rw [HST.out]; rfl, HB3.out⟩
    · have hd : ((j : Int) < (n : Int)) = False := eq_false (by omega)
      have HEN := aside (show anyN (metK T K O D) n t0 = false from Free.no _ _ (by have h := HFR.out; rw [rangeQ_end hj] at h; exact h))
      clear hj
      go_wp2_with fail
      go_ret
      exact ⟨by rw [HEN.out]; rfl, HB⟩

end Go.Proofs.YtiblmojdjnfoaaaGreat

namespace Go.Proofs.YtiblmojdjnfoaaaGreat.Rg
open Go.RowKit Fl

/-- All blocks that are there lie as they lay, but those of X. -/
structure Kept (X : Nat → Prop) (w w' : World) : Prop where
  os : w'.os = w.os
  tape : w'.tape = w.tape
  output : w'.output = w.output
  size : w.heap.size ≤ w'.heap.size
  block : ∀ (k : Nat), k < w.heap.size → ¬ X k → w'.heap[k]? = w.heap[k]?
section
variable {X Y : Nat → Prop} {w w' w'' : World}
theorem Kept.of (h : Below w.heap.size w w') : Kept X w w' := ⟨h.os, h.tape, h.output, h.size, fun k hk _ => h.block k hk⟩
theorem Kept.refl (w : World) : Kept X w w := .of (Below.refl _ _)
theorem Kept.trans (h : Kept X w w') (k : Kept X w' w'') : Kept X w w'' :=
  ⟨k.os.trans h.os, k.tape.trans h.tape, k.output.trans h.output, Nat.le_trans h.size k.size, fun i hi hn => (k.block i (Nat.lt_of_lt_of_le hi h.size) hn).trans (h.block i hi hn)⟩
theorem Kept.more (h : Kept X w w') (hx : ∀ k, X k → Y k) : Kept Y w w' := ⟨h.os, h.tape, h.output, h.size, fun k hk hn => h.block k hk fun hx' => hn (hx k hx')⟩
theorem Kept.put {r : Nat} (h : Kept X w w') (hr : X r) (o : Obj) : Kept X w (w'.putObj r o) :=
  ⟨h.os, h.tape, h.output, by rw [World.putObj_size]; exact h.size, fun k hk hn => by
    rw [World.putObj_heap_other (fun (e : k = r) => hn (by rw [e]; exact hr))]
    exact h.block k hk hn⟩
theorem Kept.set {b i : Nat} (h : Kept X w w') (hb : X b) (v : Value) : Kept X w (w'.setCell ⟨b, i, none⟩ v) :=
  ⟨h.os, h.tape, h.output, Nat.le_trans h.size (KeepsWalks.setCell w' ⟨b, i, none⟩ v).size, fun k hk hn => (Below.heap_setCell w' ⟨b, i, none⟩ v k (fun e => hn (by rw [e]; exact hb))).trans (h.block k hk hn)⟩
theorem Kept.alloc (h : Kept X w w') (o : Obj) : Kept X w (w'.alloc o) := h.trans (.of ((Below.refl _ _).alloc (Nat.le_refl _) _))
theorem Kept.bk {b : Nat} {vs : Array Value} {t : TypeId} (h : Kept X w w') (hb : Lp.Bk w b vs t) (hn : ¬ X b) : Lp.Bk w' b vs t := (h.block b hb.lt hn).trans hb
theorem Kept.cl {w0 : World} (h : Kept X w w') (k : Cl w0 w) (hx : ∀ k, X k → w0.heap.size ≤ k) : Cl w0 w' :=
  ⟨h.os.trans k.os, h.tape.trans k.tape, h.output.trans k.output, Nat.le_trans k.size h.size, fun i hi => (h.block i (Nat.lt_of_lt_of_le hi k.size) (fun q => by have := hx i q; omega)).trans (k.block i hi)⟩
theorem Kept.below {N : Nat} (h : Kept X w w') (hx : ∀ k, X k → N ≤ k) (hN : N ≤ w.heap.size) : Below N w w' :=
  ⟨h.os, h.tape, h.output, h.size, fun i hi => h.block i (by omega) (fun q => by have := hx i q; omega)⟩
end

abbrev Rec := LoopState → Option Code → Loop
def recOf (fn : FuncId) (tmps : Array Value) (ps : Array Tmp) (assign body : Code) (B : Nat) : Rec := fun st pe => { state := st, pending := pe, fn, tmps, params := ps, assign, body, defers := B }
/-- How the function that is ranged over leaves the loop's two blocks. -/
def Ends (B : Nat) (rec : Rec) (I : World → Prop) (Ix : Code → World → Prop) (W : World) : Prop :=
  (I W ∧ W.heap[B + 1]? = some (.loop (rec .ready none)) ∧ W.heap[B]? = some (.deferred (some []))) ∨
  (∃ c, Ix c W ∧ W.heap[B + 1]? = some (.loop (rec .done (some c))) ∧ W.heap[B]? = some (.deferred (some [])))

theorem range_wp {P : Program} {g : Operand} {ps : Array Tmp} {assign body : Code} {Q : Exit → Act → World → Prop} {a : Act} {w : World} {gf : Nat} {lb : Array Value}
    (hg : a.eval g = .func (.func gf) #[] lb) (eg : ∀ args w, (callFunc gf args).run P w = .ok (.enter gf args) w)
    (I : World → Prop) (Ix : Code → World → Prop) (hI : ∀ W o, I W → I (W.putObj (w.heap.size + 1) o)) (hIx : ∀ c W o, Ix c W → Ix c (W.putObj (w.heap.size + 1) o))
    (hcall : ∀ fn rec W1, rec = recOf fn a.tmps ps assign body w.heap.size → Cl w W1 → W1.heap.size = w.heap.size + 2 → W1.heap[w.heap.size + 1]? = some (.loop (rec .ready none)) → W1.heap[w.heap.size]? = some (.deferred (some [])) →
      Calls P gf (#[.func (.yield (w.heap.size + 1)) #[] #[]] ++ lb) W1 fun e W2 => (∃ v, e = .returned v) ∧ Ends w.heap.size rec I Ix W2)
    (hdone : ∀ W, I W → W.heap[w.heap.size]? = some (.deferred (some [])) → Q .normal { a with defers := { target := .collected w.heap.size, args := #[] } :: a.defers } W)
    (hstop : ∀ c W, Ix c W → W.heap[w.heap.size]? = some (.deferred (some [])) → c.wp P Q { a with defers := { target := .collected w.heap.size, args := #[] } :: a.defers } W) :
    (Code.rangeFunc g ps assign body).wp P Q a w := by
  refine (wpIn_wide (n := 0)).1 (wpIn_rangeFunc fun fn _ => ?_)
  obtain ⟨W1, hW1⟩ : ∃ W1, (w.alloc (.deferred (some []))).alloc (.loop (recOf fn a.tmps ps assign body w.heap.size .ready none)) = W1 := ⟨_, rfl⟩
  have hL1 : W1.heap[w.heap.size + 1]? = some (.loop (recOf fn a.tmps ps assign body w.heap.size .ready none)) := by
    rw [← hW1]; have := World.alloc_heap_new (w.alloc (.deferred (some []))) (.loop (recOf fn a.tmps ps assign body w.heap.size .ready none)); rwa [World.size_alloc] at this
  have hK1 : W1.heap[w.heap.size]? = some (.deferred (some [])) := by
    rw [← hW1]; exact (Below.heap_alloc _ _ _ (by simp)).trans (World.alloc_heap_new w _)
  have hC1 : Cl w W1 := by rw [← hW1]; exact ((Below.refl _ w).alloc (Nat.le_refl _) _).alloc (by simp) _
  have hS1 : W1.heap.size = w.heap.size + 2 := by rw [← hW1]; simp
  refine ⟨w.heap.size + 1, [{ target := .collected w.heap.size, args := #[] }], W1, { target := .fn (.func gf) lb, args := #[.func (.yield (w.heap.size + 1)) #[] #[]] }, W1, gf,
    #[.func (.yield (w.heap.size + 1)) #[] #[]] ++ lb, W1, ?_, ?_, ?_, ?_, fun h => (by cases h), ?_⟩
  · rw [← hW1]; exact run_enterLoop_outer _ _ _ _ _
  · simp only [resolve, hg]
    simp [go_sem]
  · intro f' _; trivial
  · simp [invoke, go_sem, eg]
  · refine callsIn_wide.2 (Calls.mono (hcall fn _ W1 rfl hC1 hS1 hL1 hK1) ?_)
    rintro e W2 ⟨⟨v, rfl⟩, ⟨hi, hl, hk⟩ | ⟨c, hi, hl, hk⟩⟩
    · have hr := run_endLoop (P := P) hl (by simp [recOf])
      exact ⟨none, _, hr, hdone _ (hI _ _ hi) ((World.putObj_heap_other (by omega)).trans hk)⟩
    · have hr := run_endLoop (P := P) hl (by simp [recOf])
      exact ⟨some c, _, hr, wpIn_wide.2 (hstop c _ (hIx _ _ _ hi) ((World.putObj_heap_other (by omega)).trans hk))⟩

/-- What is asked where a round's body ends. -/
def endPost (l : Nat) (rec : Rec) (R : Ending → World → Prop) : Exit → Act → World → Prop
  | .normal, _, W => W.heap[l]? = some (.loop (rec .busy none)) ∧ R (.returned (.bool true)) (W.putObj l (.loop (rec .ready none)))
  | .ret, _, W => W.heap[l]? = some (.loop (rec .busy none)) ∧ R (.returned (.bool false)) (W.putObj l (.loop (rec .done (some .ret))))
  | _, _, _ => False

theorem round_at {P : Program} {l B : Nat} {fn : FuncId} {tmps : Array Value} {ps : Array Tmp} {assign body : Code} {args : Array Value} (hs : args.size = ps.size) {W : World} {rec : Rec} (hrec : rec = recOf fn tmps ps assign body B)
    (hl : W.heap[l]? = some (.loop (rec .ready none))) {R : Ending → World → Prop}
    (h : assign.wpIn (Fence.wide.inRound l) 0 P (Exit.then (fun a₁ W₁ => W₁.heap[l]? = some (.loop (rec .ready none)) ∧ body.wpIn (Fence.wide.inRound l) 0 P (endPost l rec R) a₁ (W₁.putObj l (.loop (rec .busy none)))) (fun _ _ _ => False))
      { tmps := (ps.zip args).foldl (fun t (p, v) => t.setIfInBounds p v) tmps, defers := [] } W) : YieldAt Fence.wide 0 P l args W R := by
  subst hrec
  refine ⟨fn, _, assign, body, run_yield (P := P) hl hs, roundIn_of_wpIn trivial (wpIn_mono h ?_)⟩
  intro e a₁ W₁ hq
  cases e with
  | normal =>
    obtain ⟨hl1, hb⟩ := hq
    refine ⟨_, run_beginRound hl1 rfl, wpIn_mono hb ?_⟩
    intro e a₂ W₂ hp
    cases e with
    | normal => exact ⟨_, _, run_endRound (P := P) none hp.1, hp.2⟩
    | ret => exact ⟨_, _, run_endRound (P := P) (some .ret) hp.1, hp.2⟩
    | exit id => exact hp.elim
    | goto t => exact hp.elim
    | panic c => exact hp.elim
    | outgrown => exact hp.elim
  | exit id => exact hq.elim
  | goto t => exact hq.elim
  | ret => exact hq.elim
  | panic c => exact hq.elim
  | outgrown => exact hq.elim

theorem yield_mono {P : Program} {m : Nat} {l : Nat} {args : Array Value} {W : World} {R R' : Ending → World → Prop} (h : YieldAt Fence.wide m P l args W R) (hr : ∀ e w, R e w → R' e w) : YieldAt Fence.wide m P l args W R' := h.mono hr
end Go.Proofs.YtiblmojdjnfoaaaGreat.Rg

namespace Go.Proofs.YtiblmojdjnfoaaaGreat
open Go.RowKit Fl Lm

/-- Shapes in memory: of each triangle its box, and that box's middle. -/
structure Shp (T : Nat → Tr) (w : World) (n : Nat) (ab am : Option Addr) : Prop where
  bx : Sl w ab n 6 fun i => bcs (T i).box
  md : Sl w am n 3 fun i => pcs (T i).box.mid
theorem Shp.keep {T : Nat → Tr} {w w' : World} {n : Nat} {ab am : Option Addr} (h : Shp T w n ab am) (hb : Below w.heap.size w w') : Shp T w' n ab am := ⟨h.bx.keep hb, h.md.keep hb⟩
theorem bxs_more (T : Nat → Tr) {l : List Nat} {j : Nat} (hj : j < l.length) : bxs T (l.take (j + 1)) = (bxs T (l.take j)).join (T (l.getD j 0)).box := by
  unfold bxs; rw [take_more hj, List.map_append]; exact Bx.all_snoc _ _
theorem mds_more (T : Nat → Tr) {l : List Nat} {j : Nat} (hj : j < l.length) : mds T (l.take (j + 1)) = (mds T (l.take j)).join (T (l.getD j 0)).box.midpt := by
  unfold mds; rw [take_more hj, List.map_append]; exact Bx.all_snoc _ _

set_option maxRecDepth 100000 in
set_option maxHeartbeats 600000 in
theorem around_any (T : Nat → Tr) (n cb cm cl : Nat) (ab am ao : Option Addr) (l : List Nat) (w : World) (hS : Shp T w n ab am) (hL : Sl w ao l.length 1 (lvs l)) (hl : ∀ i, i ∈ l → i < n) (h5 : l.length ≤ 512) :
    Ret Tryz.prog 55 #[.agg #[.slice ab n cb, .slice am n cm], .slice ao l.length cl] w (fun v => v = bxv (bxs T l)) := by
  unfold Ret
  have HS := hid hS
  have HL := hid hL
  have HM := aside hl
  clear hS hL hl
  go_enter Tryz.func55, Tryz.ntmps55
  go_wp2_with fail
  refine Lp.settleC (fun w' => Lp.Bk w' (w.heap.size) #[.slice ab n cb, .slice am n cm] 77 ∧ Lp.Bk w' (w.heap.size + 1) #[.float .f64 0, .float .f64 0, .float .f64 0, .float .f64 0, .float .f64 0, .float .f64 0] 54 ∧ Cl w w') ⟨(Lp.Bk.al _ _ _).alo _, Lp.Bk.al1 _ _ _ _, ((Below.refl _ _).alloc (by simp <;> omega) _).alloc (by simp <;> omega) _⟩ ?_
  rintro v1 ⟨BS, BR, HB⟩
  have kS := BS.cell
  have kR := BR.cell
  have nS0 : (w.heap.size = v1.heap.size) = False := eq_false (by have := BS.lt; omega)
  have mS0 : w.heap.size < v1.heap.size := by have := BS.lt; omega
  have nS1 : (w.heap.size = v1.heap.size + 1) = False := eq_false (by have := BS.lt; omega)
  have mS1 : w.heap.size < v1.heap.size + 1 := by have := BS.lt; omega
  have nR0 : (w.heap.size + 1 = v1.heap.size) = False := eq_false (by have := BR.lt; omega)
  have mR0 : w.heap.size + 1 < v1.heap.size := by have := BR.lt; omega
  have nR1 : (w.heap.size = v1.heap.size) = False := eq_false (by have := BR.lt; omega)
  have mR1 : w.heap.size < v1.heap.size := by have := BR.lt; omega
  refine Calls.mono (empty_any _) ?_
  rintro e v2 ⟨v, rfl, rfl, hm⟩
  clear kS kR nS0 mS0 nS1 mS1 nR0 mR0 nR1 mR1
  replace BS := BS.keep hm
  replace BR := BR.keep hm
  replace HB := HB.call hm
  clear hm
  have kS := BS.cell
  have kR := BR.cell
  have nS0 : (w.heap.size = v2.heap.size) = False := eq_false (by have := BS.lt; omega)
  have mS0 : w.heap.size < v2.heap.size := by have := BS.lt; omega
  have nS1 : (w.heap.size = v2.heap.size + 1) = False := eq_false (by have := BS.lt; omega)
  have mS1 : w.heap.size < v2.heap.size + 1 := by have := BS.lt; omega
  have nR0 : (w.heap.size + 1 = v2.heap.size) = False := eq_false (by have := BR.lt; omega)
  have mR0 : w.heap.size + 1 < v2.heap.size := by have := BR.lt; omega
  have nR1 : (w.heap.size = v2.heap.size) = False := eq_false (by have := BR.lt; omega)
  have mR1 : w.heap.size < v2.heap.size := by have := BR.lt; omega
  go_wp2_with fail
  clear kS kR nS0 mS0 nS1 mS1 nR0 mR0 nR1 mR1
  have HVS := aside BR.lt
  go_loopg [11] l.length (fun k i wr => ∃ (j : Nat) (b : Bx), k + j = l.length ∧ i = .int .i64 (j : Int) ∧ b = bxs T (l.take j) ∧ Lp.Bk wr (w.heap.size) #[.slice ab n cb, .slice am n cm] 77 ∧ Lp.Bk wr (w.heap.size + 1) #[.float .f64 0, .float .f64 0, .float .f64 0, .float .f64 0, .float .f64 0, .float .f64 0] 54 ∧ Lp.Bk wr (v2.heap.size) #[.float .f64 b.a0, .float .f64 b.a1, .float .f64 b.a2, .float .f64 b.a3, .float .f64 b.a4, .float .f64 b.a5] 54 ∧ Cl w wr)
  case atStart => exact ⟨0, Bx.none, Nat.add_zero _, rfl, rfl, BS.alo _, BR.alo _, Lp.Bk.al _ _ _, HB.alloc _⟩
  case round =>
    clear BS BR HB
    obtain ⟨g0, hg0⟩ : ∃ g0, g0 = gk := ⟨_, rfl⟩
    subst hg0
    obtain ⟨j, b, hk, rfl, hb, BS, BR, BV, HB⟩ := hrel
    have HK := aside hk
    have HV := aside hb
    clear hk hb
    have hv := HVS.out
    by_cases hj : j < l.length
    · have hd : ((j : Int) < (l.length : Int)) = True := eq_true (by omega)
      have HV2 := aside (show bxs T (l.take (j + 1)) = b.join (T (l.getD j 0)).box by rw [HV.out]; exact bxs_more T hj)
      have hx := HM.out _ (getD_mem hj)
      obtain ⟨gl, ol, rfl, EL⟩ := (HL.out.keep HB).get hj
      obtain ⟨gb, ob, rfl, EX⟩ := (HS.out.bx.keep HB).get hx
      have kL := EL.num hj
      have hjl := aside hj
      have hj5 : j < 512 := by omega
      clear hj
      generalize l.getD j 0 = x at hx kL HV2
      have kS := BS.cell
      have kR := BR.cell
      have kV := BV.cell
      have nS0 : (w.heap.size = wr.heap.size) = False := eq_false (by have := BS.lt; omega)
      have mS0 : w.heap.size < wr.heap.size := by have := BS.lt; omega
      have nS1 : (w.heap.size = wr.heap.size + 1) = False := eq_false (by have := BS.lt; omega)
      have mS1 : w.heap.size < wr.heap.size + 1 := by have := BS.lt; omega
      have nR0 : (w.heap.size + 1 = wr.heap.size) = False := eq_false (by have := BR.lt; omega)
      have mR0 : w.heap.size + 1 < wr.heap.size := by have := BR.lt; omega
      have nR1 : (w.heap.size = wr.heap.size) = False := eq_false (by have := BR.lt; omega)
      have mR1 : w.heap.size < wr.heap.size := by have := BR.lt; omega
      have nV0 : (v2.heap.size = wr.heap.size) = False := eq_false (by have := BV.lt; omega)
      have mV0 : v2.heap.size < wr.heap.size := by have := BV.lt; omega
      have nV1 : (v2.heap.size = wr.heap.size + 1) = False := eq_false (by have := BV.lt; omega)
      have mV1 : v2.heap.size < wr.heap.size + 1 := by have := BV.lt; omega
      go_wp2_with fail
      clear kS kR kV nS0 mS0 nS1 mS1 nR0 mR0 nR1 mR1 nV0 mV0 nV1 mV1
      clear kL
      apply Lw.region _ _ 7 (by kernel_rfl) (by kernel_rfl) (by kernel_rfl) (Below.refl _ _)
      apply Lw.facts
      · intro w1 hw
        exact And.intro (BS.cl hw).cell (And.intro (BV.cl hw).cell ((bat (EX.keep hw) hx)))
      intro HF
      iterate 6 (
        apply Lw.one ?_ rfl
        · intro w hw
          obtain ⟨k0, k1, ⟨k4, k5, k6, k7, k8, k9⟩⟩ := HF.out _ hw
          go_simp
          exact rfl
        intro K hK
        go_simp
        refine hK.out _ ?_
        clear hK K)
      apply Lw.any rfl
      · intro w hw
        go_simp
        exact Lw.ret (join_any _ _ _ _ _ _ _ _ _ _ _ _ _)
      intro K hK
      rintro v rfl
      go_simp
      refine hK.out _ ?_
      clear hK K
      rotate_left
      exact []
      refine Lw.fin ?_
      intro v7 hm
      replace BS := BS.keep hm
      replace BR := BR.keep hm
      replace BV := BV.keep hm
      replace HB := HB.call hm
      clear hm EX EL
      have kV := BV.cell
      have zV := BV.frz
      go_wp2_with fail
      go_roundg (g0 - 1)
      case measure => have := HK.out; have := hjl.out; omega
      case rel =>
        have := HB.size
        have hjl := hjl.out
        refine ⟨j + 1, b.join (T x).box, by have := HK.out; omega, by go_num, HV2.out.symm, ?_, ?_, BV.set6, ?_⟩
        · (repeat (refine Lp.Bk.seto ?_ (by dsimp only; omega) _)); exact BS
        · (repeat (refine Lp.Bk.seto ?_ (by dsimp only; omega) _)); exact BR
        · (repeat (refine Below.setCell ?_ (by dsimp only; omega) _)); exact HB
    · have hd : ((j : Int) < (l.length : Int)) = False := eq_false (by omega)
      have hjl : j = l.length := by have := HK.out; omega
      subst hjl
      have HV2 := aside (show bxv b = bxv (bxs T l) by rw [HV.out, List.take_of_length_le (Nat.le_refl _)])
      clear hj
      have kV := BV.cell
      have kR := BR.cell
      have zR := BR.frz
      go_wp2_with fail
      refine bodyPost_ret (v := bxv b) (by simp [results, go_sem, kR, bxv]) rfl ⟨_, rfl, HV2.out, ?_⟩
      repeat (refine Below.setCell ?_ (by dsimp only; omega) _)
      exact HB

set_option maxRecDepth 100000 in
set_option maxHeartbeats 600000 in
theorem amid_any (T : Nat → Tr) (n cb cm cl : Nat) (ab am ao : Option Addr) (l : List Nat) (w : World) (hS : Shp T w n ab am) (hL : Sl w ao l.length 1 (lvs l)) (hl : ∀ i, i ∈ l → i < n) (h5 : l.length ≤ 512) :
    Ret Tryz.prog 73 #[.agg #[.slice ab n cb, .slice am n cm], .slice ao l.length cl] w (fun v => v = bxv (mds T l)) := by
  unfold Ret
  have HS := hid hS
  have HL := hid hL
  have HM := aside hl
  clear hS hL hl
  go_enter Tryz.func73, Tryz.ntmps73
  go_wp2_with fail
  refine Lp.settleC (fun w' => Lp.Bk w' (w.heap.size) #[.slice ab n cb, .slice am n cm] 77 ∧ Lp.Bk w' (w.heap.size + 1) #[.float .f64 0, .float .f64 0, .float .f64 0, .float .f64 0, .float .f64 0, .float .f64 0] 54 ∧ Cl w w') ⟨(Lp.Bk.al _ _ _).alo _, Lp.Bk.al1 _ _ _ _, ((Below.refl _ _).alloc (by simp <;> omega) _).alloc (by simp <;> omega) _⟩ ?_
  rintro v1 ⟨BS, BR, HB⟩
  have kS := BS.cell
  have kR := BR.cell
  have nS0 : (w.heap.size = v1.heap.size) = False := eq_false (by have := BS.lt; omega)
  have mS0 : w.heap.size < v1.heap.size := by have := BS.lt; omega
  have nS1 : (w.heap.size = v1.heap.size + 1) = False := eq_false (by have := BS.lt; omega)
  have mS1 : w.heap.size < v1.heap.size + 1 := by have := BS.lt; omega
  have nR0 : (w.heap.size + 1 = v1.heap.size) = False := eq_false (by have := BR.lt; omega)
  have mR0 : w.heap.size + 1 < v1.heap.size := by have := BR.lt; omega
  have nR1 : (w.heap.size = v1.heap.size) = False := eq_false (by have := BR.lt; omega)
  have mR1 : w.heap.size < v1.heap.size := by have := BR.lt; omega
  refine Calls.mono (empty_any _) ?_
  rintro e v2 ⟨v, rfl, rfl, hm⟩
  clear kS kR nS0 mS0 nS1 mS1 nR0 mR0 nR1 mR1
  replace BS := BS.keep hm
  replace BR := BR.keep hm
  replace HB := HB.call hm
  clear hm
  have kS := BS.cell
  have kR := BR.cell
  have nS0 : (w.heap.size = v2.heap.size) = False := eq_false (by have := BS.lt; omega)
  have mS0 : w.heap.size < v2.heap.size := by have := BS.lt; omega
  have nS1 : (w.heap.size = v2.heap.size + 1) = False := eq_false (by have := BS.lt; omega)
  have mS1 : w.heap.size < v2.heap.size + 1 := by have := BS.lt; omega
  have nR0 : (w.heap.size + 1 = v2.heap.size) = False := eq_false (by have := BR.lt; omega)
  have mR0 : w.heap.size + 1 < v2.heap.size := by have := BR.lt; omega
  have nR1 : (w.heap.size = v2.heap.size) = False := eq_false (by have := BR.lt; omega)
  have mR1 : w.heap.size < v2.heap.size := by have := BR.lt; omega
  go_wp2_with fail
  clear kS kR nS0 mS0 nS1 mS1 nR0 mR0 nR1 mR1
  have HVS := aside BR.lt
  go_loopg [11] l.length (fun k i wr => ∃ (j : Nat) (b : Bx), k + j = l.length ∧ i = .int .i64 (j : Int) ∧ b = mds T (l.take j) ∧ Lp.Bk wr (w.heap.size) #[.slice ab n cb, .slice am n cm] 77 ∧ Lp.Bk wr (w.heap.size + 1) #[.float .f64 0, .float .f64 0, .float .f64 0, .float .f64 0, .float .f64 0, .float .f64 0] 54 ∧ Lp.Bk wr (v2.heap.size) #[.float .f64 b.a0, .float .f64 b.a1, .float .f64 b.a2, .float .f64 b.a3, .float .f64 b.a4, .float .f64 b.a5] 54 ∧ Cl w wr)
  case atStart => exact ⟨0, Bx.none, Nat.add_zero _, rfl, rfl, BS.alo _, BR.alo _, Lp.Bk.al _ _ _, HB.alloc _⟩
  case round =>
    clear BS BR HB
    obtain ⟨g0, hg0⟩ : ∃ g0, g0 = gk := ⟨_, rfl⟩
    subst hg0
    obtain ⟨j, b, hk, rfl, hb, BS, BR, BV, HB⟩ := hrel
    have HK := aside hk
    have HV := aside hb
    clear hk hb
    have hv := HVS.out
    by_cases hj : j < l.length
    · have hd : ((j : Int) < (l.length : Int)) = True := eq_true (by omega)
      have HV2 := aside (show mds T (l.take (j + 1)) = b.join (T (l.getD j 0)).box.midpt by rw [HV.out]; exact mds_more T hj)
      have hx := HM.out _ (getD_mem hj)
      obtain ⟨gl, ol, rfl, EL⟩ := (HL.out.keep HB).get hj
      obtain ⟨gb, ob, rfl, EX⟩ := (HS.out.md.keep HB).get hx
      have kL := EL.num hj
      have hjl := aside hj
      have hj5 : j < 512 := by omega
      clear hj
      generalize l.getD j 0 = x at hx kL HV2
      have kS := BS.cell
      have kR := BR.cell
      have kV := BV.cell
      have nS0 : (w.heap.size = wr.heap.size) = False := eq_false (by have := BS.lt; omega)
      have mS0 : w.heap.size < wr.heap.size := by have := BS.lt; omega
      have nS1 : (w.heap.size = wr.heap.size + 1) = False := eq_false (by have := BS.lt; omega)
      have mS1 : w.heap.size < wr.heap.size + 1 := by have := BS.lt; omega
      have nR0 : (w.heap.size + 1 = wr.heap.size) = False := eq_false (by have := BR.lt; omega)
      have mR0 : w.heap.size + 1 < wr.heap.size := by have := BR.lt; omega
      have nR1 : (w.heap.size = wr.heap.size) = False := eq_false (by have := BR.lt; omega)
      have mR1 : w.heap.size < wr.heap.size := by have := BR.lt; omega
      have nV0 : (v2.heap.size = wr.heap.size) = False := eq_false (by have := BV.lt; omega)
      have mV0 : v2.heap.size < wr.heap.size := by have := BV.lt; omega
      have nV1 : (v2.heap.size = wr.heap.size + 1) = False := eq_false (by have := BV.lt; omega)
      have mV1 : v2.heap.size < wr.heap.size + 1 := by have := BV.lt; omega
      go_wp2_with fail
      clear kS kR kV nS0 mS0 nS1 mS1 nR0 mR0 nR1 mR1 nV0 mV0 nV1 mV1
      clear kL
      apply Lw.region _ _ 7 (by kernel_rfl) (by kernel_rfl) (by kernel_rfl) (Below.refl _ _)
      apply Lw.facts
      · intro w1 hw
        exact And.intro (BS.cl hw).cell (And.intro (BV.cl hw).cell ((pat (EX.keep hw) hx)))
      intro HF
      iterate 6 (
        apply Lw.one ?_ rfl
        · intro w hw
          obtain ⟨k0, k1, ⟨k4, k5, k6⟩⟩ := HF.out _ hw
          go_simp
          exact rfl
        intro K hK
        go_simp
        refine hK.out _ ?_
        clear hK K)
      apply Lw.any rfl
      · intro w hw
        go_simp
        exact Lw.ret (grow_any _ _ _ _ _ _ _ _ _ _)
      intro K hK
      rintro v rfl
      go_simp
      refine hK.out _ ?_
      clear hK K
      rotate_left
      exact []
      refine Lw.fin ?_
      intro v7 hm
      replace BS := BS.keep hm
      replace BR := BR.keep hm
      replace BV := BV.keep hm
      replace HB := HB.call hm
      clear hm EX EL
      have kV := BV.cell
      have zV := BV.frz
      go_wp2_with fail
      go_roundg (g0 - 1)
      case measure => have := HK.out; have := hjl.out; omega
      case rel =>
        have := HB.size
        have hjl := hjl.out
        refine ⟨j + 1, b.join (T x).box.midpt, by have := HK.out; omega, by go_num, HV2.out.symm, ?_, ?_, BV.set6, ?_⟩
        · (repeat (refine Lp.Bk.seto ?_ (by dsimp only; omega) _)); exact BS
        · (repeat (refine Lp.Bk.seto ?_ (by dsimp only; omega) _)); exact BR
        · (repeat (refine Below.setCell ?_ (by dsimp only; omega) _)); exact HB
    · have hd : ((j : Int) < (l.length : Int)) = False := eq_false (by omega)
      have hjl : j = l.length := by have := HK.out; omega
      subst hjl
      have HV2 := aside (show bxv b = bxv (mds T l) by rw [HV.out, List.take_of_length_le (Nat.le_refl _)])
      clear hj
      have kV := BV.cell
      have kR := BR.cell
      have zR := BR.frz
      go_wp2_with fail
      refine bodyPost_ret (v := bxv b) (by simp [results, go_sem, kR, bxv]) rfl ⟨_, rfl, HV2.out, ?_⟩
      repeat (refine Below.setCell ?_ (by dsimp only; omega) _)
      exact HB

end Go.Proofs.YtiblmojdjnfoaaaGreat

namespace Go.Proofs.YtiblmojdjnfoaaaGreat
open Go.RowKit Fl Lm

/-- What was there is as it was; no draw is given back. -/
structure Gr (w w' : World) : Prop where
  bel : Below w.heap.size w w'
  drawn : w.drawn ≤ w'.drawn
section
variable {w w' w'' : World}
theorem Gr.refl (w : World) : Gr w w := ⟨Below.refl _ _, Nat.le_refl _⟩
theorem Gr.trans (h : Gr w w') (k : Gr w' w'') : Gr w w'' := ⟨h.bel.trans (k.bel.mono h.bel.size), Nat.le_trans h.drawn k.drawn⟩
theorem Gr.alloc (h : Gr w w') (o : Obj) : Gr w (w'.alloc o) := ⟨Below.alloc h.bel h.bel.size o, h.drawn⟩
theorem Gr.drew (h : Gr w w') : Gr w w'.drew := ⟨h.bel.drew, Nat.le_succ_of_le h.drawn⟩
theorem Gr.setCell (h : Gr w w') {p : Addr} (hp : w.heap.size ≤ p.block) (u : Value) : Gr w (w'.setCell p u) := ⟨Below.setCell h.bel hp u, h.drawn⟩
theorem Gr.eq (h : Gr w w') : ∃ q os, w' = Sort.grow (w.drewN q) os := by
  refine ⟨w'.drawn - w.drawn, w'.heap.extract w.heap.size w'.heap.size, ?_⟩
  have hh : w'.heap = w.heap ++ w'.heap.extract w.heap.size w'.heap.size := by
    apply Array.ext_getElem?
    intro k
    rw [Array.getElem?_append]
    by_cases hk : k < w.heap.size
    · rw [if_pos hk]; exact h.bel.block k hk
    · have := h.bel.size
      rw [if_neg hk, Array.getElem?_extract]
      by_cases hk2 : k < w'.heap.size
      · rw [if_pos (by omega), show w.heap.size + (k - w.heap.size) = k by omega]
      · rw [if_neg (by omega), Array.getElem?_eq_none (by omega)]
  have hd : w.drawn + (w'.drawn - w.drawn) = w'.drawn := by have := h.drawn; omega
  obtain ⟨h1, h2, h3, h4, h5⟩ := w'
  obtain ⟨e1, e2, e3, e4, e5⟩ := h.bel
  unfold Sort.grow World.drewN
  dsimp only at *
  rw [← hh, hd, e1, e2, e3]
theorem Gr.along (W : World) : Lw.Along Gr (Gr W) := fun _ _ hr h => h.trans hr
end
/-- A call that only grows. -/
def RetG (P : Program) (f : FuncId) (args : Array Value) (w : World) (V : Value → Prop) : Prop :=
  Calls P f args w fun e w' => ∃ v, e = .returned v ∧ V v ∧ Gr w w'
theorem RetG.ret {P : Program} {f : FuncId} {args : Array Value} {w : World} {V : Value → Prop} (h : RetG P f args w V) : Ret P f args w V :=
  Calls.mono h fun _ _ ⟨v, he, hv, hg⟩ => ⟨v, he, hv, hg.bel⟩
theorem retG {P : Program} {f : FuncId} {args : Array Value} {w : World} {V : Value → Prop} (h : RetG P f args w V) : Lw.Upon P Gr w (fun v _ => V v) (.ok (.enter f args) w) := h

set_option maxRecDepth 100000 in
set_option maxHeartbeats 1000000 in
theorem gpart_any (p : V3) (i : Int) (w : World) : RetG Tryz.prog 51 #[.agg #[.float .f64 p.x, .float .f64 p.y, .float .f64 p.z], .int .i64 i] w (fun v => v = .float .f64 (partV p i)) := by
  unfold RetG partV partF
  by_cases h0 : i = 0
  · subst h0
    go_enter Tryz.func51, Tryz.ntmps51
    go_wp2_with fail
    go_ret
    exact ⟨_, rfl, rfl, (Gr.refl _).alloc _⟩
  · by_cases h1 : i = 1
    · subst h1
      go_enter Tryz.func51, Tryz.ntmps51
      go_wp2_with fail
      go_ret
      exact ⟨_, rfl, rfl, (Gr.refl _).alloc _⟩
    · rw [if_neg h0, if_neg h1]
      have b0 : (i == 0) = false := by simpa using h0
      have b1 : (i == 1) = false := by simpa using h1
      clear h0 h1
      go_enter Tryz.func51, Tryz.ntmps51
      go_wp2_with fail
      go_ret
      exact ⟨_, rfl, rfl, (Gr.refl _).alloc _⟩

set_option maxRecDepth 100000 in
set_option maxHeartbeats 1000000 in
theorem fnan_any {x : Nat} (h : Num x) (w : World) : Calls Tryz.prog 144 #[.float .f64 x] w fun e w' => e = .returned (.bool false) ∧ w' = w := by
  have hp : (FloatKind.f64.format.order x x != some .eq) = false := by
    have : (FloatKind.f64.format.order x x == some .eq) = true := eq_self h
    simp [bne, this]
  clear h
  go_enter Tryz.func144, Tryz.ntmps144
  go_wp2_with fail
  go_ret
  exact ⟨rfl, rfl⟩

set_option maxRecDepth 100000 in
set_option maxHeartbeats 1000000 in
theorem inan_any (x : Int) (w : World) : Calls Tryz.prog 145 #[.int .i64 x] w fun e w' => e = .returned (.bool false) ∧ w' = w := by
  have hp : (x != x) = false := by simp
  go_enter Tryz.func145, Tryz.ntmps145
  go_wp2_with fail
  go_ret
  exact ⟨rfl, rfl⟩

/-- -1: less; 1: greater. -/
def cmpF (x y : Nat) : Int := if (ford x y == some .lt) = true then -1 else if (ford x y == some .gt) = true then 1 else 0
def cmpI (x y : Int) : Int := if x < y then -1 else if y < x then 1 else 0

set_option maxRecDepth 100000 in
set_option maxHeartbeats 1000000 in
theorem fcmp_any {x y : Nat} (hx : Num x) (hy : Num y) (w : World) : Calls Tryz.prog 121 #[.float .f64 x, .float .f64 y] w fun e w' => e = .returned (.int .i64 (cmpF x y)) ∧ w' = w := by
  have HX := hid (fun w => fnan_any hx w)
  have HY := hid (fun w => fnan_any hy w)
  clear hx hy
  unfold cmpF
  have hp : (FloatKind.f64.format.order x y == some .lt) = (ford x y == some .lt) := rfl
  have hq : (FloatKind.f64.format.order x y == some .gt) = (ford x y == some .gt) := rfl
  generalize (ford x y == some .lt) = p at hp ⊢
  generalize (ford x y == some .gt) = q at hq ⊢
  cases p
  · cases q <;>
    · go_enter Tryz.func121, Tryz.ntmps121
      go_wp2_with fail
      refine Calls.mono (HX.out _) ?_
      rintro e w' ⟨rfl, hw⟩
      obtain rfl := hw.symm
      clear hw
      go_wp2_with fail
      refine Calls.mono (HY.out _) ?_
      rintro e w' ⟨rfl, hw⟩
      obtain rfl := hw.symm
      clear hw
      go_wp2_with fail
      go_ret
      exact ⟨rfl, rfl⟩
  · go_enter Tryz.func121, Tryz.ntmps121
    go_wp2_with fail
    refine Calls.mono (HX.out _) ?_
    rintro e w' ⟨rfl, hw⟩
    obtain rfl := hw.symm
    clear hw
    go_wp2_with fail
    refine Calls.mono (HY.out _) ?_
    rintro e w' ⟨rfl, hw⟩
    obtain rfl := hw.symm
    clear hw
    go_wp2_with fail
    go_ret
    exact ⟨rfl, rfl⟩

set_option maxRecDepth 100000 in
set_option maxHeartbeats 1000000 in
theorem icmp_any (x y : Int) (w : World) : Calls Tryz.prog 122 #[.int .i64 x, .int .i64 y] w fun e w' => e = .returned (.int .i64 (cmpI x y)) ∧ w' = w := by
  unfold cmpI
  by_cases h1 : x < y
  · have d1 : (x < y) = True := eq_true h1
    rw [if_pos h1]
    go_enter Tryz.func122, Tryz.ntmps122
    go_wp2_with fail
    refine Calls.mono (inan_any _ _) ?_
    rintro e w' ⟨rfl, hw⟩
    obtain rfl := hw.symm
    clear hw
    go_wp2_with fail
    refine Calls.mono (inan_any _ _) ?_
    rintro e w' ⟨rfl, hw⟩
    obtain rfl := hw.symm
    clear hw
    go_wp2_with fail
    go_ret
    exact ⟨rfl, rfl⟩
  · have d1 : (x < y) = False := eq_false h1
    rw [if_neg h1]
    by_cases h2 : y < x
    · have d2 : (y < x) = True := eq_true h2
      rw [if_pos h2]
      go_enter Tryz.func122, Tryz.ntmps122
      go_wp2_with fail
      refine Calls.mono (inan_any _ _) ?_
      rintro e w' ⟨rfl, hw⟩
      obtain rfl := hw.symm
      clear hw
      go_wp2_with fail
      refine Calls.mono (inan_any _ _) ?_
      rintro e w' ⟨rfl, hw⟩
      obtain rfl := hw.symm
      clear hw
      go_wp2_with fail
      go_ret
      exact ⟨rfl, rfl⟩
    · have d2 : (y < x) = False := eq_false h2
      rw [if_neg h2]
      go_enter Tryz.func122, Tryz.ntmps122
      go_wp2_with fail
      refine Calls.mono (inan_any _ _) ?_
      rintro e w' ⟨rfl, hw⟩
      obtain rfl := hw.symm
      clear hw
      go_wp2_with fail
      refine Calls.mono (inan_any _ _) ?_
      rintro e w' ⟨rfl, hw⟩
      obtain rfl := hw.symm
      clear hw
      go_wp2_with fail
      go_ret
      exact ⟨rfl, rfl⟩

def orI (x y : Int) : Int := if x = 0 then y else x

set_option maxRecDepth 100000 in
set_option maxHeartbeats 1000000 in
theorem or_any (x y : Int) (g : Nat) (w : World) (hB : Lp.Bk w g #[.int .i64 x, .int .i64 y] 3) : Calls Tryz.prog 120 #[.slice (some ⟨g, 0, none⟩) 2 2] w fun e w' => e = .returned (.int .i64 (orI x y)) ∧ w' = w := by
  have kB := hB.cell
  clear hB
  unfold orI
  by_cases h1 : x = 0
  · rw [if_pos h1]
    subst h1
    by_cases h2 : y = 0
    · subst h2
      go_enter Tryz.func120, Tryz.ntmps120
      go_wp2_with fail
      refine wp_loop_rounds 3 ?_
      rw [rounds_succ]
      go_wp2_with fail
      rw [rounds_succ]
      go_wp2_with fail
      rw [rounds_succ]
      go_wp2_with fail
      go_ret
      exact ⟨rfl, rfl⟩
    · have d2 : (y = 0) = False := eq_false h2
      have e2 : (y != 0) = true := by simpa using h2
      go_enter Tryz.func120, Tryz.ntmps120
      go_wp2_with fail
      refine wp_loop_rounds 2 ?_
      rw [rounds_succ]
      go_wp2_with fail
      rw [rounds_succ]
      go_wp2_with fail
      go_ret
      exact ⟨rfl, rfl⟩
  · rw [if_neg h1]
    have d1 : (x = 0) = False := eq_false h1
    have e1 : (x != 0) = true := by simpa using h1
    go_enter Tryz.func120, Tryz.ntmps120
    go_wp2_with fail
    refine wp_loop_rounds 1 ?_
    rw [rounds_succ]
    go_wp2_with fail
    go_ret
    exact ⟨rfl, rfl⟩

/-- What the function of an axis tells of two numbers. -/
def cfT (T : Nat → Tr) (k i j : Nat) : Int := orI (cmpF (keyT T k i) (keyT T k j)) (cmpI i j)

set_option maxRecDepth 100000 in
set_option maxHeartbeats 1000000 in
theorem along1_any (T : Nat → Tr) (hT : ∀ i, (T i).Mo) (n cb cm gs ga k i j : Nat) (ab am : Option Addr) (w : World) (hS : Lp.Bk w gs #[.slice ab n cb, .slice am n cm] 77) (hA : Lp.Bk w ga #[.int .i64 (k : Int)] 3) (hM : Shp T w n ab am) (hi : i < n) (hj : j < n) :
    RetG Tryz.prog 119 #[.int .i64 (i : Int), .int .i64 (j : Int), .pointer (some ⟨gs, 0, none⟩), .pointer (some ⟨ga, 0, none⟩)] w (fun v => v = .int .i64 (cfT T k i j)) := by
  unfold RetG
  obtain ⟨g, o, rfl, E⟩ := hM.md.get hi
  have HC := hid (fun w => fcmp_any (key_mo hT k i).num (key_mo hT k j).num w)
  have HP := hid (fun w => gpart_any (T i).box.mid (k : Int) w)
  have HQ := hid (fun w => gpart_any (T j).box.mid (k : Int) w)
  have e1 : partV (T i).box.mid (k : Int) = keyT T k i := rfl
  have e2 : partV (T j).box.mid (k : Int) = keyT T k j := rfl
  rw [e1] at HP
  rw [e2] at HQ
  unfold cfT
  generalize keyT T k i = x at *
  generalize keyT T k j = y at *
  have HE := hid E
  have hil := aside hi
  have hjl := aside hj
  clear hM E e1 e2
  have HBS := hid hS
  have HBA := hid hA
  clear hS hA
  go_enter Tryz.func119, Tryz.ntmps119
  go_wp2_with fail
  apply Lw.wp_region_loose Gr (Gr w) _ 16 (by kernel_rfl) (by kernel_rfl) (by kernel_rfl) (Gr.along w) (Gr.refl w).drew
  apply Lw.facts
  · intro w1 hw
    exact And.intro (HBS.out.keep hw.bel).cell (And.intro (HBA.out.keep hw.bel).cell (And.intro (pat (HE.out.keep hw.bel) hil.out) (pat (HE.out.keep hw.bel) hjl.out)))
  intro HF
  iterate 6 (
    apply Lw.one ?_ rfl
    · intro w1 hw
      obtain ⟨k0, k1, ⟨k2, k3, k4⟩, ⟨k5, k6, k7⟩⟩ := HF.out _ hw
      have hx1 := hil.out
      have hx2 := hjl.out
      go_simp
      exact rfl
    intro K hK
    go_simp
    refine hK.out _ ?_
    clear hK K)
  apply Lw.any rfl
  · intro w1 hw
    go_simp
    exact retG (HP.out _)
  intro K hK
  rintro v rfl
  go_simp
  refine hK.out _ ?_
  clear hK K
  iterate 6 (
    apply Lw.one ?_ rfl
    · intro w1 hw
      obtain ⟨k0, k1, ⟨k2, k3, k4⟩, ⟨k5, k6, k7⟩⟩ := HF.out _ hw
      have hx1 := hil.out
      have hx2 := hjl.out
      go_simp
      exact rfl
    intro K hK
    go_simp
    refine hK.out _ ?_
    clear hK K)
  apply Lw.any rfl
  · intro w1 hw
    go_simp
    exact retG (HQ.out _)
  intro K hK
  rintro v rfl
  go_simp
  refine hK.out _ ?_
  clear hK K
  iterate 2 (
    apply Lw.one ?_ rfl
    · intro w1 hw
      go_simp
      exact rfl
    intro K hK
    go_simp
    refine hK.out _ ?_
    clear hK K)
  rotate_left
  exact []
  refine Lw.fin ?_
  intro v1 hm
  clear HF
  go_wp2_with fail
  refine Calls.mono (HC.out _) ?_
  rintro e w' ⟨rfl, hw⟩
  obtain rfl := hw.symm
  clear hw
  go_wp2_with fail
  refine Calls.mono (icmp_any _ _ _) ?_
  rintro e w' ⟨rfl, hw⟩
  obtain rfl := hw.symm
  clear hw
  go_wp2_with fail
  refine Calls.mono (or_any _ _ _ _ (Lp.Bk.al _ _ _)) ?_
  rintro e w' ⟨rfl, hw⟩
  obtain rfl := hw.symm
  clear hw
  go_wp2_with fail
  go_ret
  exact ⟨_, rfl, rfl, hm.alloc _⟩

end Go.Proofs.YtiblmojdjnfoaaaGreat

namespace Go.Proofs.YtiblmojdjnfoaaaGreat
open Go.RowKit Fl Lm

/-- A row that is the call's own, in a block from N on. -/
structure Own (N : Nat) (w : World) (ty : TypeId) (k : Nat) (v : Value) (n : Nat) (e : Nat → List Value) : Prop where
  row : w.ownsRow 0 ty k v n (flat n e)
  lo : ∀ g, v.ownBlock = some g → N ≤ g
/-- Two rows' blocks are not the same. -/
def Apart2 (u v : Value) : Prop := ∀ g, u.ownBlock = some g → v.ownBlock ≠ some g
theorem Apart2.symm {u v : Value} (h : Apart2 u v) : Apart2 v u := fun g h1 h2 => h g h2 h1
section
variable {N : Nat} {w w' : World} {ty : TypeId} {k n : Nat} {v v' : Value} {e e' : Nat → List Value} {row : Option Nat}
theorem Own.nil (N : Nat) (w : World) (ty : TypeId) (k : Nat) (e : Nat → List Value) : Own N w ty k (.slice none 0 0) 0 e := ⟨World.ownsRow_nil _ _ _ _, fun g h => by cases h⟩
theorem Own.keep (h : Own N w ty k v n e) (hb : Below w.heap.size w w') : Own N w' ty k v n e := ⟨owns_same h.row hb, h.lo⟩
theorem Own.slice (h : Own N w ty k v n e) : ∃ ao cap, v = .slice ao n cap := by
  obtain ⟨ao, cap, e, _⟩ := owns_slice h.row
  exact ⟨ao, cap, e⟩
theorem Own.lt (h : Own N w ty k v n e) : ∀ g, v.ownBlock = some g → g < w.heap.size := fun g hg => (h.row.lt g hg).2
theorem Own.other (h : Own N w ty k v n e) (hg : w.grownBy w' row) (ha : ∀ g, v.ownBlock = some g → row ≠ some g) : Own N w' ty k v n e := by
  refine ⟨h.row.kept hg ?_, h.lo⟩
  cases hv : v.ownBlock with
  | none => exact .inl rfl
  | some g => exact .inr fun e => ha g hv e.symm
theorem Own.setc (h : Own N w ty k v n e) {p : Addr} (hne : p.block < N) (u : Value) : Own N (w.setCell p u) ty k v n e := by
  refine ⟨?_, h.lo⟩
  obtain ⟨h1, h2⟩ := h.row
  refine ⟨h1, ?_⟩
  rcases h2 with h2 | ⟨g, cap, cur, hv, hg, hh, r⟩
  · exact .inl h2
  · refine .inr ⟨g, cap, cur, hv, hg, ?_, r⟩
    have := h.lo g (by rw [hv]; rfl)
    rw [Below.heap_setCell _ _ _ _ (by omega)]
    exact hh
theorem Own.weak (h : Own N w ty k v n e) {M : Nat} (hm : M ≤ N) : Own M w ty k v n e := ⟨h.row, fun g hg => Nat.le_trans hm (h.lo g hg)⟩
theorem Own.congr (h : Own N w ty k v n e) (he : ∀ i, i < n → e i = e' i) : Own N w ty k v n e' := ⟨by rw [← flat_congr he]; exact h.row, h.lo⟩
theorem Own.cut {ao : Option Addr} {cap m : Nat} (h : Own N w ty k (.slice ao n cap) n e) (he : ∀ i, i < n → (e i).length = k) (hm : m ≤ n) : Own N w ty k (.slice ao m cap) m e := by
  refine ⟨owns_cut h.row he hm, fun g hg => h.lo g ?_⟩
  cases ao with
  | none => cases hg
  | some a => exact hg
theorem Own.sl {ao : Option Addr} {cap : Nat} (h : Own N w ty k (.slice ao n cap) n e) (he : ∀ i, i < n → (e i).length = k) : Sl w ao n k e := Sl.of_owns h.row he
/-- Behind append. -/
theorem Own.push {x : List Value} (h : Own N w ty k v n e) (h1 : w'.ownsRow 0 ty k v' (n + 1) (flat n e ++ x)) (hb : v'.ownBlock = v.ownBlock ∨ ∀ g, v'.ownBlock = some g → w.heap.size ≤ g) (hN : N ≤ w.heap.size) (he : ∀ i, i < n → e i = e' i) (hx : e' n = x) : Own N w' ty k v' (n + 1) e' := by
  refine ⟨owns_flat h1 he hx, fun g hg => ?_⟩
  rcases hb with hb | hb
  · exact h.lo g (hb ▸ hg)
  · exact Nat.le_trans hN (hb g hg)
theorem Apart2.push {u : Value} {M : Nat} {ty2 : TypeId} {k2 n2 : Nat} {e2 : Nat → List Value} (ha : Apart2 v u) (hu : Own M w ty2 k2 u n2 e2) (hb : v'.ownBlock = v.ownBlock ∨ ∀ g, v'.ownBlock = some g → w.heap.size ≤ g) : Apart2 v' u := fun g hg hug => by
  rcases hb with hb | hb
  · exact ha g (hb ▸ hg) hug
  · have := hb g hg
    have := hu.lt g hug
    omega
theorem Bk_grown {b : Nat} {vs : Array Value} {t : TypeId} (h : Lp.Bk w b vs t) (hg : w.grownBy w' row) (hn : ∀ g, row = some g → b < g) : Lp.Bk w' b vs t :=
  (hg.block b h.lt fun e => Nat.lt_irrefl _ (hn b e.symm)).trans h
theorem Cl_grown {W : World} (h : Cl W w) (hg : w.grownBy w' row) (hn : ∀ g, row = some g → W.heap.size ≤ g) : Cl W w' :=
  ⟨hg.os.trans h.os, hg.tape.trans h.tape, hg.output.trans h.output, Nat.le_trans h.size hg.size, fun i hi => (hg.block i (Nat.lt_of_lt_of_le hi h.size) fun e => by have := hn i e.symm; omega).trans (h.block i hi)⟩
theorem Els_grown {g off m k2 : Nat} {e2 : Nat → List Value} (h : Els w g off m k2 e2) (hg : w.grownBy w' row) (hn : row ≠ some g) : Els w' g off m k2 e2 := h.same (hg.block g h.lt fun e => hn e.symm)
end
theorem cells_at0 {w : World} {b : Nat} {xs : List Value} {t : TypeId} (h : Lp.Bk w b xs.toArray t) : ∀ j u, xs[j]? = some u → w.cell? ((⟨b, 0, none⟩ : Addr).add j) = some u := by
  intro j u hj
  rw [addr_off, Nat.zero_add, h.cell j, ← hj, List.getElem?_toArray]

theorem info_int : ∃ i, Tryz.prog.info? 3 = some i ∧ i.zero = some (.int .i64 0) ∧ i.size = 1 ∧ i.bytes = 8 := by
  have h : (Tryz.prog.info? 3).map (fun i => (i.zero, i.size, i.bytes)) = some (some (.int .i64 0), 1, 8) := by kernel_rfl
  obtain ⟨i, hi, hz⟩ := Option.map_eq_some_iff.1 h
  simp only [Prod.mk.injEq] at hz
  exact ⟨i, hi, hz.1, hz.2.1, hz.2.2⟩

theorem under_ints : Tryz.prog.underlying 28 = some (.slice 3) := by kernel_rfl

theorem info_box : ∃ i, Tryz.prog.info? 54 = some i ∧ i.zero = some (.agg #[.float .f64 0, .float .f64 0, .float .f64 0, .float .f64 0, .float .f64 0, .float .f64 0]) ∧ i.size = 6 ∧ i.bytes = 48 := by
  have h : (Tryz.prog.info? 54).map (fun i => (i.zero, i.size, i.bytes)) = some (some (.agg #[.float .f64 0, .float .f64 0, .float .f64 0, .float .f64 0, .float .f64 0, .float .f64 0]), 6, 48) := by kernel_rfl
  obtain ⟨i, hi, hz⟩ := Option.map_eq_some_iff.1 h
  simp only [Prod.mk.injEq] at hz
  exact ⟨i, hi, hz.1, hz.2.1, hz.2.2⟩

theorem under_boxes : Tryz.prog.underlying 74 = some (.slice 54) := by kernel_rfl

theorem info_vec : ∃ i, Tryz.prog.info? 25 = some i ∧ i.zero = some (.agg #[.float .f64 0, .float .f64 0, .float .f64 0]) ∧ i.size = 3 ∧ i.bytes = 24 := by
  have h : (Tryz.prog.info? 25).map (fun i => (i.zero, i.size, i.bytes)) = some (some (.agg #[.float .f64 0, .float .f64 0, .float .f64 0]), 3, 24) := by kernel_rfl
  obtain ⟨i, hi, hz⟩ := Option.map_eq_some_iff.1 h
  simp only [Prod.mk.injEq] at hz
  exact ⟨i, hi, hz.1, hz.2.1, hz.2.2⟩

theorem under_vecs : Tryz.prog.underlying 75 = some (.slice 25) := by kernel_rfl

theorem info_node : ∃ i, Tryz.prog.info? 56 = some i ∧ i.zero = some (.agg #[.float .f64 0, .float .f64 0, .float .f64 0, .float .f64 0, .float .f64 0, .float .f64 0, .int .i64 0, .int .i64 0, .int .i64 0, .int .i64 0]) ∧ i.size = 10 ∧ i.bytes = 80 := by
  have h : (Tryz.prog.info? 56).map (fun i => (i.zero, i.size, i.bytes)) = some (some (.agg #[.float .f64 0, .float .f64 0, .float .f64 0, .float .f64 0, .float .f64 0, .float .f64 0, .int .i64 0, .int .i64 0, .int .i64 0, .int .i64 0]), 10, 80) := by kernel_rfl
  obtain ⟨i, hi, hz⟩ := Option.map_eq_some_iff.1 h
  simp only [Prod.mk.injEq] at hz
  exact ⟨i, hi, hz.1, hz.2.1, hz.2.2⟩

theorem under_nodes : Tryz.prog.underlying 48 = some (.slice 56) := by kernel_rfl

end Go.Proofs.YtiblmojdjnfoaaaGreat
