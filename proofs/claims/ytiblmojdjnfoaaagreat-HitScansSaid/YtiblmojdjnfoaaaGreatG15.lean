/- Package hit: nothing, what is worth a look, ahead, blocks; tri.Better of two that are met; slices.Index and Contains of numbers. A region that draws its order and stores a result while others are told: Lw over worlds that may turn one block, to what it is told to hold. Package tri: Meet. Package hit: asker, and what it makes. -/
import Derived.Deep.LoopGhost
import Derived.Deep.RegionHeld3
import Derived.Test.YtiblmojdjnfoaaaGreatRows
import Derived.Test.YtiblmojdjnfoaaaGreatG14
import Derived.Test.YtiblmojdjnfoaaaGreatG10
import Derived.Test.YtiblmojdjnfoaaaGreatG7
import Derived.Test.YtiblmojdjnfoaaaGreatG11
namespace Go.Proofs.YtiblmojdjnfoaaaGreat
open Go.RowKit Fl Lm

theorem wd_fmul (x y : Nat) : Wd (fmul x y) := by
  unfold fmul
  cases h : F64.mul x y with
  | none => show Wd qnan; unfold Wd qnan; decide
  | some r => exact wd_of (floatBits_wf (op := .mul) (k := .f64) h)
theorem meet_wd {O D h : V3} {t : Tr} (e : meetT O D t = some h) : Wd h.x := by
  unfold meetT meetF at e
  split at e
  · cases e
  · split at e
    · cases e; exact wd_fmul _ _
    · cases e
def Hit.Fine (b : Hit) : Prop := ∀ i h, b = some (i, h) → isN h.x = false ∧ Wd h.x
theorem Hit.Fine.none : Hit.Fine none := fun _ _ h => by cases h
theorem Hit.Fine.ahead {a b : Hit} (ha : a.Fine) (hb : b.Fine) : Hit.Fine (aheadN a b) := by unfold aheadN; split <;> assumption
/-- A hit's cells. -/
def hcs : Hit → Array Value
  | some (i, h) => #[.int .i64 (i : Nat), .float .f64 h.x, .float .f64 h.y, .float .f64 h.z]
  | none => #[.int .i64 (-1), .float .f64 0, .float .f64 0, .float .f64 0]
theorem hitN_is (b : Hit) : hitN b = .agg (hcs b) := by
  cases b <;> rfl

set_option maxRecDepth 100000 in
theorem nothing_any (w : World) : Ret Tryz.prog 21 #[] w (fun v => v = .agg #[.int .i64 (-1), .float .f64 0, .float .f64 0, .float .f64 0]) := by
  unfold Ret
  go_enter Tryz.func21, Tryz.ntmps21
  go_wp2_with fail
  refine bodyPost_ret (v := .agg #[.int .i64 (-1), .float .f64 0, .float .f64 0, .float .f64 0]) (by simp [results, go_sem]) rfl ⟨_, rfl, rfl, ?_⟩
  repeat (refine Below.setCell ?_ (by dsimp only; omega) _)
  exact (Below.refl _ _).alloc (Nat.le_refl _) _

/-- Is what lies so near worth a look, if b is the best? -/
def worthF (b : Hit) (near : Nat) : Bool := match b with
  | none => true
  | some (_, h) => leB near h.x
set_option maxRecDepth 100000 in
theorem first1_any (b : Hit) (near g : Nat) (w : World) (hB : Lp.Bk w g (hcs b) 35) : Ret Tryz.prog 31 #[.float .f64 near, .pointer (some ⟨g, 0, none⟩)] w (fun v => v = .bool (worthF b near)) := by
  unfold Ret
  rcases b with _ | ⟨j, h⟩
  · unfold hcs at hB
    have k0 := hB.cell
    go_enter Tryz.func31, Tryz.ntmps31
    go_wp2_with fail
    go_ret
    exact ⟨_, rfl, rfl, Below.refl _ _⟩
  · unfold hcs at hB
    have k0 := hB.cell
    have hd : ((j : Int) < 0) = False := eq_false (by omega)
    have hc := le_w (Sm.refl near) (Sm.refl h.x)
    generalize hy : leB near h.x = y at hc
    have HY := aside (show worthF (some (j, h)) near = y from hy)
    clear hy
    have hc0 : (FloatKind.f64.format.order near h.x == some .lt || FloatKind.f64.format.order near h.x == some .eq) = y := hc
    go_enter Tryz.func31, Tryz.ntmps31
    go_wp2_with fail
    go_ret
    exact ⟨_, rfl, by rw [HY.out]; rfl, Below.refl _ _⟩

set_option maxRecDepth 100000 in
theorem any1_any (near t g : Nat) (w : World) (hB : Lp.Bk w g #[.float .f64 t] 23) : Ret Tryz.prog 33 #[.float .f64 near, .pointer (some ⟨g, 0, none⟩)] w (fun v => v = .bool (ltC near t)) := by
  unfold Ret
  have k0 := hB.cell
  have hc0 := lt_w (Sm.refl near) (Sm.refl t)
  generalize hy : ltC near t = y at *
  clear hy
  go_enter Tryz.func33, Tryz.ntmps33
  go_wp2_with fail
  go_ret
  exact ⟨_, rfl, rfl, Below.refl _ _⟩

set_option maxRecDepth 100000 in
theorem visits1_any (near : Nat) (w : World) : Ret Tryz.prog 41 #[.float .f64 near] w (fun v => v = .bool true) := by
  unfold Ret
  go_enter Tryz.func41, Tryz.ntmps41
  go_wp2_with fail
  go_ret
  exact ⟨_, rfl, rfl, Below.refl _ _⟩

set_option maxRecDepth 100000 in
theorem blocks_any (b : Option V3) (i t : Nat) (w : World) : Ret Tryz.prog 25 #[hitN (b.map fun h => (i, h)), .float .f64 t] w (fun v => v = .bool (blkB t b)) := by
  unfold Ret
  rcases b with _ | h
  · simp only [Option.map_none, hitN, blkB]
    go_enter Tryz.func25, Tryz.ntmps25
    go_wp2_with fail
    go_ret
    exact ⟨_, rfl, rfl, (Below.refl _ _).alloc (Nat.le_refl _) _⟩
  · simp only [Option.map_some, hitN, blkB]
    have hd : (0 ≤ (i : Int)) = True := eq_true (by omega)
    have hc0 := lt_w (Sm.refl h.x) (Sm.refl t)
    generalize hy : ltC h.x t = y at *
    clear hy
    go_enter Tryz.func25, Tryz.ntmps25
    go_wp2_with fail
    go_ret
    exact ⟨_, rfl, rfl, (Below.refl _ _).alloc (Nat.le_refl _) _⟩

set_option maxRecDepth 100000 in
theorem level_any (i j : Int) (x y a b c d : Nat) (hx : isN x = false) (wx : Wd x) (wy : Wd y) (w : World) : Ret Tryz.prog 68 #[.agg #[.int .i64 i, .float .f64 x, .float .f64 a, .float .f64 b], .agg #[.int .i64 j, .float .f64 y, .float .f64 c, .float .f64 d]] w (fun v => v = .bool (ford x y == some .eq)) := by
  unfold Ret
  have HS := hid (same_any x 0 0 y 0 0 wx wd_zero wd_zero wy wd_zero wd_zero)
  have hE : eqvB x 0 0 y 0 0 = (ford x y == some .eq) := by
    have h1 : sameB x y = (ford x y == some .eq) := by unfold sameB; rw [ford_refl hx]; simp
    have h2 : sameB 0 0 = true := by decide +kernel
    unfold eqvB
    rw [h1, h2]
    simp
  rw [hE] at HS
  generalize (ford x y == some .eq) = r at *
  go_enter Tryz.func68, Tryz.ntmps68
  go_wp2_with fail
  refine Calls.mono (HS.out _) ?_
  rintro e w1 ⟨v, rfl, rfl, hm⟩
  go_wp2_with fail
  go_ret
  exact ⟨_, rfl, rfl, (show Cl w _ from ((Below.refl _ _).alloc (Nat.le_refl _) _).alloc (by simp) _).call hm⟩

set_option maxRecDepth 100000 in
set_option maxHeartbeats 1000000 in
theorem better_any (a b : Hit) (ha : a.Fine) (hb : b.Fine) (w : World) : Ret Tryz.prog 45 #[.agg (hcs a), .agg (hcs b)] w (fun v => v = .bool (betN a b)) := by
  unfold Ret
  rcases a with _ | ⟨i, h⟩
  · rcases b with _ | ⟨j, g⟩
    all_goals
      simp only [hcs, betN]
      go_enter Tryz.func45, Tryz.ntmps45
      go_wp2_with fail
      go_ret
      exact ⟨_, rfl, rfl, ((Below.refl _ _).alloc (Nat.le_refl _) _).alloc (by simp) _⟩
  · have hi : ((i : Int) < 0) = False := eq_false (by omega)
    rcases b with _ | ⟨j, g⟩
    · simp only [hcs, betN]
      go_enter Tryz.func45, Tryz.ntmps45
      go_wp2_with fail
      go_ret
      exact ⟨_, rfl, rfl, ((Below.refl _ _).alloc (Nat.le_refl _) _).alloc (by simp) _⟩
    · have hj : ((j : Int) < 0) = False := eq_false (by omega)
      have HL := hid (level_any i j h.x g.x h.y h.z g.y g.z (ha i h rfl).1 (ha i h rfl).2 (hb j g rfl).2)
      have hc0 := lt_w (Sm.refl h.x) (Sm.refl g.x)
      simp only [hcs, betN]
      unfold ahB
      have hl : (ford h.x g.x == some .lt) = ltC h.x g.x := rfl
      have hx : (ford h.x g.x == some .eq) = true → ltC h.x g.x = false := fun q => by unfold ltC; rw [eq_of_beq q]; rfl
      rw [hl]
      generalize ltC h.x g.x = p at *
      generalize (ford h.x g.x == some .eq) = q at *
      have HX := aside hx
      clear hx hl
      cases q
      · have HP := aside (show (p || (false && decide (i < j))) = p by simp)
        go_enter Tryz.func45, Tryz.ntmps45
        go_wp2_with fail
        refine Calls.mono (HL.out _) ?_
        rintro e w1 ⟨v, rfl, rfl, hm⟩
        have BA : Lp.Bk w1 w.heap.size #[.int .i64 (i : Nat), .float .f64 h.x, .float .f64 h.y, .float .f64 h.z] 35 := ((Lp.Bk.al _ _ _).alo _).keep hm
        have BB : Lp.Bk w1 (w.heap.size + 1) #[.int .i64 (j : Nat), .float .f64 g.x, .float .f64 g.y, .float .f64 g.z] 35 := (Lp.Bk.al1 _ _ _ _).keep hm
        have HB : Cl w w1 := (show Cl w _ from ((Below.refl _ _).alloc (Nat.le_refl _) _).alloc (by simp) _).call hm
        clear hm
        have kA := BA.cell
        have kB := BB.cell
        go_wp2_with fail
        go_ret
        exact ⟨_, rfl, by rw [HP.out]; rfl, HB⟩
      · obtain rfl := HX.out rfl
        have HP := aside (show (false || (true && decide (i < j))) = decide (i < j) by simp)
        go_enter Tryz.func45, Tryz.ntmps45
        go_wp2_with fail
        refine Calls.mono (HL.out _) ?_
        rintro e w1 ⟨v, rfl, rfl, hm⟩
        have BA : Lp.Bk w1 w.heap.size #[.int .i64 (i : Nat), .float .f64 h.x, .float .f64 h.y, .float .f64 h.z] 35 := ((Lp.Bk.al _ _ _).alo _).keep hm
        have BB : Lp.Bk w1 (w.heap.size + 1) #[.int .i64 (j : Nat), .float .f64 g.x, .float .f64 g.y, .float .f64 g.z] 35 := (Lp.Bk.al1 _ _ _ _).keep hm
        have HB : Cl w w1 := (show Cl w _ from ((Below.refl _ _).alloc (Nat.le_refl _) _).alloc (by simp) _).call hm
        clear hm
        have kA := BA.cell
        have kB := BB.cell
        go_wp2_with fail
        go_ret
        exact ⟨_, rfl, by rw [HP.out]; rfl, HB⟩

set_option maxRecDepth 100000 in
set_option maxHeartbeats 1000000 in
theorem ahead_any (a b : Hit) (ha : a.Fine) (hb : b.Fine) (w : World) : Ret Tryz.prog 23 #[hitN a, hitN b] w (fun v => v = hitN (aheadN a b)) := by
  unfold Ret
  have HBT := hid (better_any a b ha hb)
  have HA := aside (show hitN (aheadN a b) = if betN a b then .agg (hcs a) else .agg (hcs b) by unfold aheadN; split <;> exact hitN_is _)
  rw [hitN_is a, hitN_is b]
  have hza : ∃ a0 a1 a2 a3, hcs a = #[.int .i64 a0, .float .f64 a1, .float .f64 a2, .float .f64 a3] := by rcases a with _ | ⟨i, h⟩ <;> exact ⟨_, _, _, _, rfl⟩
  have hzb : ∃ a0 a1 a2 a3, hcs b = #[.int .i64 a0, .float .f64 a1, .float .f64 a2, .float .f64 a3] := by rcases b with _ | ⟨i, h⟩ <;> exact ⟨_, _, _, _, rfl⟩
  obtain ⟨a0, a1, a2, a3, ea⟩ := hza
  obtain ⟨b0, b1, b2, b3, eb⟩ := hzb
  rw [ea, eb] at HA HBT
  rw [ea, eb]
  clear ea eb
  generalize hitN (aheadN a b) = R at *
  generalize betN a b = q at *
  clear ha hb
  cases q
  all_goals
    go_enter Tryz.func23, Tryz.ntmps23
    go_wp2_with fail
    refine Calls.mono (HBT.out _) ?_
    rintro e w1 ⟨v, rfl, rfl, hm⟩
    have BA : Lp.Bk w1 w.heap.size #[.int .i64 a0, .float .f64 a1, .float .f64 a2, .float .f64 a3] 35 := (((Lp.Bk.al _ _ _).alo _).alo _).keep hm
    have BB : Lp.Bk w1 (w.heap.size + 1) #[.int .i64 b0, .float .f64 b1, .float .f64 b2, .float .f64 b3] 35 := ((Lp.Bk.al1 _ _ _ _).alo _).keep hm
    have BR : Lp.Bk w1 (w.heap.size + 1 + 1) #[.int .i64 0, .float .f64 0, .float .f64 0, .float .f64 0] 35 := (Lp.Bk.al2 _ _ _ _ _).keep hm
    have HB : Cl w w1 := (show Cl w _ from (((Below.refl _ _).alloc (Nat.le_refl _) _).alloc (by simp) _).alloc (by simp <;> omega) _).call hm
    clear hm
    have kA := BA.cell
    have kB := BB.cell
    have kR := BR.cell
    have zR := BR.frz
    go_wp2_with fail
  · refine bodyPost_ret (v := .agg #[.int .i64 b0, .float .f64 b1, .float .f64 b2, .float .f64 b3]) (by simp [results, go_sem, kR]) rfl ⟨_, rfl, by rw [HA.out]; rfl, ?_⟩
    repeat (refine Below.setCell ?_ (by dsimp only; omega) _)
    exact HB
  · refine bodyPost_ret (v := .agg #[.int .i64 a0, .float .f64 a1, .float .f64 a2, .float .f64 a3]) (by simp [results, go_sem, kR]) rfl ⟨_, rfl, by rw [HA.out]; rfl, ?_⟩
    repeat (refine Below.setCell ?_ (by dsimp only; omega) _)
    exact HB

/-! Numbers that are skipped. -/
def kvs (K : List Int) (i : Nat) : List Value := [.int .i64 (K.getD i 0)]
theorem kat {w : World} {g o : Nat} {K : List Int} (h : Els w g o K.length 1 (kvs K)) {j : Nat} (hj : j < K.length) : w.cell? ⟨g, o + j, none⟩ = some (.int .i64 (K.getD j 0)) := by
  rw [h.one hj]; rfl

set_option maxRecDepth 100000 in
set_option maxHeartbeats 1000000 in
theorem index_any (K : List Int) (x : Int) (c : Nat) (ao : Option Addr) (w : World) (hK : Sl w ao K.length 1 (kvs K)) (h5 : K.length ≤ 1000) :
    Calls Tryz.prog 65 #[.slice ao K.length c, .int .i64 x] w fun e w' => (∃ i : Int, e = .returned (.int .i64 i) ∧ (0 ≤ i ↔ x ∈ K)) ∧ w' = w := by
  have HK := hid hK
  clear hK
  go_enter Tryz.func65, Tryz.ntmps65
  go_wp2_with fail
  go_loopg [8] K.length (fun k i wr => ∃ j : Nat, k + j = K.length ∧ i = .int .i64 (j : Int) ∧ (∀ i, i < j → x ≠ K.getD i 0) ∧ wr = w)
  case atStart => exact ⟨0, Nat.add_zero _, rfl, fun _ h => absurd h (Nat.not_lt_zero _), rfl⟩
  case round =>
    obtain ⟨g0, hg0⟩ : ∃ g0, g0 = gk := ⟨_, rfl⟩
    subst hg0
    obtain ⟨j, hk, rfl, hN, rfl⟩ := hrel
    have HN := aside hN
    have HJ := aside hk
    clear hk hN
    by_cases hj : j < K.length
    · have hd : ((j : Int) < (K.length : Int)) = True := eq_true (by omega)
      obtain ⟨g, o, rfl, E⟩ := HK.out.get hj
      have k0 := kat E hj
      have hj5 : j < 1000 := by omega
      have HJL := aside hj
      have HV := aside (show ∀ y, y = K.getD j 0 → x = y → x ∈ K from fun y hy hx => by
        rw [hx, hy, List.getD_eq_getElem?_getD, List.getElem?_eq_getElem hj]
        exact List.getElem_mem hj)
      have HW := aside (show ∀ y, y = K.getD j 0 → x ≠ y → ∀ i, i < j + 1 → x ≠ K.getD i 0 from fun y hy hx i hi => by
        rcases Nat.lt_succ_iff_lt_or_eq.1 hi with h | h
        · exact HN.out i h
        · rw [h, ← hy]; exact hx)
      clear hj
      generalize hy : K.getD j 0 = y at k0
      have HY := aside hy.symm
      clear hy
      by_cases hxy : x = y
      · subst hxy
        go_wp2_with fail
        go_ret
        exact ⟨⟨(j : Int), rfl, ⟨fun _ => HV.out _ HY.out rfl, fun _ => by omega⟩⟩, rfl⟩
      · have hq : (x = y) = False := eq_false hxy
        go_wp2_with fail
        go_roundg (g0 - 1)
        case measure => have := HJ.out; have := HJL.out; omega
        case rel => exact ⟨j + 1, by have := HJ.out; have := HJL.out; omega, by go_num, HW.out _ HY.out hxy, rfl⟩
    · have hd : ((j : Int) < (K.length : Int)) = False := eq_false (by omega)
      have hje : j = K.length := by have := HJ.out; omega
      go_wp2_with fail
      go_ret
      refine ⟨⟨-1, rfl, ⟨fun h => absurd h (by decide), fun h => ?_⟩⟩, rfl⟩
      obtain ⟨i, hi, e⟩ := List.getElem_of_mem h
      refine absurd ?_ (HN.out i (by omega))
      rw [List.getD_eq_getElem?_getD, List.getElem?_eq_getElem hi, ← e]
      rfl
set_option maxRecDepth 100000 in
theorem contains_int (K : List Int) (x : Int) (c : Nat) (ao : Option Addr) (w : World) (hK : Sl w ao K.length 1 (kvs K)) (h5 : K.length ≤ 1000) :
    Calls Tryz.prog 43 #[.slice ao K.length c, .int .i64 x] w fun e w' => e = .returned (.bool (decide (x ∈ K))) ∧ w' = w := by
  have HI := hid (index_any K x c ao w hK h5)
  clear hK
  go_enter Tryz.func43, Tryz.ntmps43
  go_wp2_with fail
  refine Calls.mono HI.out ?_
  rintro e w1 ⟨⟨i, rfl, hi⟩, rfl⟩
  have HB := aside (show decide (0 ≤ i) = decide (x ∈ K) from decide_eq_decide.2 hi)
  clear hi
  go_wp2_with fail
  go_ret
  exact ⟨by rw [HB.out]; rfl, rfl⟩
end Go.Proofs.YtiblmojdjnfoaaaGreat

namespace Go.Proofs.YtiblmojdjnfoaaaGreat.Ls
open Go.RowKit Fl Lp Lw

/-- All but block b is as it was; that is as it was, or new. -/
structure Sto (b : Nat) (new : Obj) (w w' : World) : Prop where
  os : w'.os = w.os
  tape : w'.tape = w.tape
  output : w'.output = w.output
  size : w.heap.size ≤ w'.heap.size
  block : ∀ k, k < w.heap.size → k ≠ b → w'.heap[k]? = w.heap[k]?
  at_ : ∀ o, w.heap[b]? = some o → w'.heap[b]? = some o ∨ w'.heap[b]? = some new
section
variable {b : Nat} {new : Obj} {w w' w'' : World}
theorem Sto.of (h : Below w.heap.size w w') : Sto b new w w' :=
  ⟨h.os, h.tape, h.output, h.size, fun k hk _ => h.block k hk, fun _ ho => .inl ((h.block b (Array.getElem?_eq_some_iff.1 ho).1).trans ho)⟩
theorem Sto.trans (h : Sto b new w w') (k : Sto b new w' w'') : Sto b new w w'' :=
  ⟨k.os.trans h.os, k.tape.trans h.tape, k.output.trans h.output, Nat.le_trans h.size k.size, fun i hi hn => (k.block i (Nat.lt_of_lt_of_le hi h.size) hn).trans (h.block i hi hn), fun o ho => by
    rcases h.at_ o ho with e | e
    · exact k.at_ o e
    · exact .inr (by rcases k.at_ _ e with e | e <;> exact e)⟩
theorem along (W : World) : Along (Sto b new) (Sto b new W) := fun _ _ hr h => h.trans hr
theorem along_new : Along (Sto b new) fun w => w.heap[b]? = some new := fun _ _ hr h => by rcases hr.at_ _ h with e | e <;> exact e
theorem Sto.keep {i : Nat} {vs : Array Value} {t : TypeId} (h : Sto b new w w') (hb : Bk w i vs t) (hn : i ≠ b) : Bk w' i vs t := (h.block i hb.lt hn).trans hb
theorem Sto.cl {W : World} (h : Sto b new w w') (k : Cl W w) (hb : W.heap.size ≤ b) : Cl W w' :=
  ⟨h.os.trans k.os, h.tape.trans k.tape, h.output.trans k.output, Nat.le_trans k.size h.size, fun i hi => (h.block i (Nat.lt_of_lt_of_le hi k.size) (by omega)).trans (k.block i hi)⟩
theorem Sto.refl (w : World) : Sto b new w w := Sto.of (Below.refl _ _)
/-- Block b, before or behind the store. -/
theorem Sto.old {vs ns : Array Value} {t : TypeId} (h : Sto b (.cells ns t) w w') (hb : Bk w b vs t) : Bk w' b vs t ∨ Bk w' b ns t := h.at_ _ hb
theorem same_set {w0 w : World} {b k i : Nat} {u : Value} (hk : k ≠ b) (h : w.heap[k]? = w0.heap[k]?) : (w.setCell ⟨b, i, none⟩ u).heap[k]? = w0.heap[k]? := (Below.heap_setCell w ⟨b, i, none⟩ u k hk).trans h
theorem stored {ns : Array Value} {t : TypeId} (ho : w'.os = w.os) (ht : w'.tape = w.tape) (hp : w'.output = w.output) (hs : w'.heap.size = w.heap.size) (hk : ∀ k, k ≠ b → w'.heap[k]? = w.heap[k]?) (hn : Bk w' b ns t) : Sto b (.cells ns t) w w' :=
  ⟨ho, ht, hp, by rw [hs]; exact Nat.le_refl _, fun k _ h => hk k h, fun _ _ => .inr hn⟩
end
section
variable {P : Program} {ops : Array Oper} {md : Region.Mode} {Q : Exit → Act → World → Prop}
theorem region {id : Nat} {a : Act} {w : World} {l : List Oper} (b : Nat) (new : Obj) (kds : List Kd) (m : Nat) (hm : P.follows .mixedOrders = true) (hB : Region.lexB .any l.toArray = true)
    (hL : tailWaits .any l.toArray m = true) (h : wpLoose P (Sto b new) .any l.toArray (Sto b new w) Q kds m 0 l a (fun _ _ => True)) : (Code.region id l.toArray true).wp P Q a w :=
  wp_region_loose (Sto b new) (Sto b new w) kds m hm hB hL (along w) (Sto.of (Below.drew (Below.refl _ _))) h
theorem ret {b : Nat} {new : Obj} {f : FuncId} {args : Array Value} {V : Value → Prop} {w : World} (h : Ret P f args w V) : Upon P (Sto b new) w (fun v _ => V v) (.ok (.enter f args) w) :=
  Calls.mono h fun _ _ ⟨v, he, hV, hb⟩ => ⟨v, he, hV, Sto.of hb⟩
end
end Go.Proofs.YtiblmojdjnfoaaaGreat.Ls

namespace Go.Proofs.YtiblmojdjnfoaaaGreat
open Go.RowKit Fl

theorem bkc {w : World} {b : Nat} {vs : Array Value} {t : TypeId} (h : Lp.Bk w b vs t) : Lp.Bk w b vs t ∧ ∀ i, w.cell? ⟨b, i, none⟩ = vs[i]? := ⟨h, h.cell⟩
theorem _root_.Go.Proofs.YtiblmojdjnfoaaaGreat.Fl.Cl.drew' {W w : World} (h : Cl W w) : Cl W w.drew := Below.drew h
theorem zero_self : (FloatKind.f64.format.order 0 0 == some .eq) = true := by decide +kernel
set_option maxRecDepth 100000 in
set_option maxHeartbeats 1000000 in
theorem meet_any (A B C O D : V3) (w : World) : Ret Tryz.prog 44 #[.agg #[.float .f64 A.x, .float .f64 A.y, .float .f64 A.z, .float .f64 B.x, .float .f64 B.y, .float .f64 B.z, .float .f64 C.x, .float .f64 C.y, .float .f64 C.z], .agg #[.float .f64 O.x, .float .f64 O.y, .float .f64 O.z, .float .f64 D.x, .float .f64 D.y, .float .f64 D.z]] w (fun v => v = .tuple #[hitV (meetF A B C O D), .bool (meetF A B C O D).isSome]) := by
  unfold Ret
  have HA := hid (fun b w => asked_any A B C O D b w)
  generalize meetF A B C O D = M at HA ⊢
  have z0 := zero_self
  rcases M with _ | h
  · simp only [hitV] at HA
    simp only [hitV, Option.isSome]
    have HB : Cl w w := Below.refl _ _
    go_enter Tryz.func44, Tryz.ntmps44
    go_wp2_with fail
    refine Lp.settle (fun w' => Lp.Bk w' (w.heap.size) #[.float .f64 A.x, .float .f64 A.y, .float .f64 A.z, .float .f64 B.x, .float .f64 B.y, .float .f64 B.z, .float .f64 C.x, .float .f64 C.y, .float .f64 C.z] 60 ∧ Lp.Bk w' (w.heap.size + 1) #[.float .f64 O.x, .float .f64 O.y, .float .f64 O.z, .float .f64 D.x, .float .f64 D.y, .float .f64 D.z] 27 ∧ Lp.Bk w' (w.heap.size + 1 + 1) #[.int .i64 0, .float .f64 0, .float .f64 0, .float .f64 0] 35 ∧ Cl w w') ⟨((Lp.Bk.al _ _ _).alo _).alo _, (Lp.Bk.al1 _ _ _ _).alo _, Lp.Bk.al2 _ _ _ _ _, (((HB).alloc _).alloc _).alloc _⟩ ?_
    clear HB
    rintro v1 ⟨BT, BY, BR, HB⟩
    have kT := BT.cell
    have kY := BY.cell
    have kR := BR.cell
    have zR := BR.frz
    have nT0 : (w.heap.size = v1.heap.size) = False := eq_false (by have := BT.lt; omega)
    have mT0 : w.heap.size < v1.heap.size := by have := BT.lt; omega
    have nT1 : (w.heap.size = v1.heap.size + 1) = False := eq_false (by have := BT.lt; omega)
    have mT1 : w.heap.size < v1.heap.size + 1 := by have := BT.lt; omega
    have nY0 : (w.heap.size + 1 = v1.heap.size) = False := eq_false (by have := BY.lt; omega)
    have mY0 : w.heap.size + 1 < v1.heap.size := by have := BY.lt; omega
    have nY1 : (w.heap.size = v1.heap.size) = False := eq_false (by have := BY.lt; omega)
    have mY1 : w.heap.size < v1.heap.size := by have := BY.lt; omega
    have nR0 : (w.heap.size + 1 + 1 = v1.heap.size) = False := eq_false (by have := BR.lt; omega)
    have mR0 : w.heap.size + 1 + 1 < v1.heap.size := by have := BR.lt; omega
    have nR1 : (w.heap.size + 1 = v1.heap.size) = False := eq_false (by have := BR.lt; omega)
    have mR1 : w.heap.size + 1 < v1.heap.size := by have := BR.lt; omega
    have hlt : w.heap.size + 1 + 1 < v1.heap.size := BR.lt
    apply Lw.region _ _ 5 (by kernel_rfl) (by kernel_rfl) (by kernel_rfl) (Below.refl _ _)
    apply Lw.facts
    · intro w1 hw
      exact And.intro (BT.cl hw).cell (And.intro (BY.cl hw).cell ((BR.cl hw).cell))
    intro HF
    iterate 1 (
      apply Lw.one ?_ rfl
      · intro w hw
        obtain ⟨k0, k1, k2⟩ := HF.out _ hw
        go_simp
        exact rfl
      intro K hK
      go_simp
      refine hK.out _ ?_
      clear hK K)
    apply Lw.anyW (V := fun v w' => ∃ b, v = .func (.func 88) #[] #[.pointer (some ⟨b, 0, none⟩)] ∧ w'.heap[b]? = some (.cells #[.float .f64 O.x, .float .f64 O.y, .float .f64 O.z, .float .f64 D.x, .float .f64 D.y, .float .f64 D.z] 27)) rfl
    · exact fun v x y hb ⟨b, e, h⟩ => ⟨b, e, Lp.Bk.keep h hb⟩
    · intro w hw _
      go_simp
      exact Calls.mono (asker_any O D _) fun e w' ⟨he, hb, hk⟩ => ⟨_, he, ⟨_, rfl, hk⟩, hb⟩
    intro K hK v hv
    obtain ⟨_, _, b, rfl, _⟩ := hv
    go_simp
    refine hK.out _ _ ?_
    clear hK K
    iterate 1 (
      apply Lw.one ?_ rfl
      · intro w hw
        obtain ⟨k0, k1, k2⟩ := HF.out _ hw
        go_simp
        exact rfl
      intro K hK
      go_simp
      refine hK.out _ ?_
      clear hK K)
    apply Lw.anyN rfl
    · intro w hw hN
      obtain ⟨b', e, hk⟩ := (hN 1 (by kernel_rfl)).2 rfl
      cases e
      clear hN
      go_simp
      exact Lw.ret (HA.out b _ hk)
    intro K hK
    rintro v rfl
    go_simp
    refine hK.out _ ?_
    clear hK K
    apply Lw.new _ rfl
    · intro w hw
      go_simp
      exact rfl
    intro K hK b2 hb2
    go_simp
    refine hK.out _ _ ?_
    clear hK K
    rotate_left
    exact []
    refine Lw.finE ?_
    intro v2 hm hE
    have BH : Lp.Bk v2 b2 #[.int .i64 0, .float .f64 0, .float .f64 0, .float .f64 0] 35 := ((hE 4).2 rfl).2
    clear hE
    clear kT kY kR zR nT0 mT0 nT1 mT1 nY0 mY0 nY1 mY1 nR0 mR0 nR1 mR1
    replace BT := BT.keep hm
    replace BY := BY.keep hm
    replace BR := BR.keep hm
    replace HB := HB.call hm
    have kT := BT.cell
    have kY := BY.cell
    have kR := BR.cell
    have kH := BH.cell
    have zR := BR.frz
    have zH := BH.frz
    have nT0 : (w.heap.size = v2.heap.size) = False := eq_false (by have := BT.lt; omega)
    have mT0 : w.heap.size < v2.heap.size := by have := BT.lt; omega
    have nT1 : (w.heap.size = v2.heap.size + 1) = False := eq_false (by have := BT.lt; omega)
    have mT1 : w.heap.size < v2.heap.size + 1 := by have := BT.lt; omega
    have nY0 : (w.heap.size + 1 = v2.heap.size) = False := eq_false (by have := BY.lt; omega)
    have mY0 : w.heap.size + 1 < v2.heap.size := by have := BY.lt; omega
    have nY1 : (w.heap.size = v2.heap.size) = False := eq_false (by have := BY.lt; omega)
    have mY1 : w.heap.size < v2.heap.size := by have := BY.lt; omega
    have nR0 : (w.heap.size + 1 + 1 = v2.heap.size) = False := eq_false (by have := BR.lt; omega)
    have mR0 : w.heap.size + 1 + 1 < v2.heap.size := by have := BR.lt; omega
    have nR1 : (w.heap.size + 1 = v2.heap.size) = False := eq_false (by have := BR.lt; omega)
    have mR1 : w.heap.size + 1 < v2.heap.size := by have := BR.lt; omega
    have nH0 : (b2 = v2.heap.size) = False := eq_false (by have := BH.lt; omega)
    have mH0 : b2 < v2.heap.size := by have := BH.lt; omega
    have nH1 : (b2 = v2.heap.size + 1) = False := eq_false (by have := BH.lt; omega)
    have mH1 : b2 < v2.heap.size + 1 := by have := BH.lt; omega
    go_wp2_with fail
    refine Lp.settle (fun w' => Lp.Bk w' (w.heap.size) #[.float .f64 A.x, .float .f64 A.y, .float .f64 A.z, .float .f64 B.x, .float .f64 B.y, .float .f64 B.z, .float .f64 C.x, .float .f64 C.y, .float .f64 C.z] 60 ∧ Lp.Bk w' (w.heap.size + 1) #[.float .f64 O.x, .float .f64 O.y, .float .f64 O.z, .float .f64 D.x, .float .f64 D.y, .float .f64 D.z] 27 ∧ Lp.Bk w' (w.heap.size + 1 + 1) #[.int .i64 0, .float .f64 0, .float .f64 0, .float .f64 0] 35 ∧ Lp.Bk w' (b2) #[.int .i64 (-1), .float .f64 0, .float .f64 0, .float .f64 0] 35 ∧ Cl w w') ⟨(by (repeat (refine Lp.Bk.seto ?_ (by dsimp only; omega) _)); exact BT), (by (repeat (refine Lp.Bk.seto ?_ (by dsimp only; omega) _)); exact BY), (by (repeat (refine Lp.Bk.seto ?_ (by dsimp only; omega) _)); exact BR), ((((BH.set 0 _).set 1 _).set 2 _).set 3 _), (by (repeat (refine Below.setCell ?_ (by dsimp only; omega) _)); exact HB)⟩ ?_
    clear kT kY kR kH zR zH nT0 mT0 nT1 mT1 nY0 mY0 nY1 mY1 nR0 mR0 nR1 mR1 nH0 mH0 nH1 mH1
    clear BT BY BR BH HB
    rintro v3 ⟨BT, BY, BR, BH, HB⟩
    have kT := BT.cell
    have kY := BY.cell
    have kR := BR.cell
    have kH := BH.cell
    have zR := BR.frz
    have nT0 : (w.heap.size = v3.heap.size) = False := eq_false (by have := BT.lt; omega)
    have mT0 : w.heap.size < v3.heap.size := by have := BT.lt; omega
    have nT1 : (w.heap.size = v3.heap.size + 1) = False := eq_false (by have := BT.lt; omega)
    have mT1 : w.heap.size < v3.heap.size + 1 := by have := BT.lt; omega
    have nY0 : (w.heap.size + 1 = v3.heap.size) = False := eq_false (by have := BY.lt; omega)
    have mY0 : w.heap.size + 1 < v3.heap.size := by have := BY.lt; omega
    have nY1 : (w.heap.size = v3.heap.size) = False := eq_false (by have := BY.lt; omega)
    have mY1 : w.heap.size < v3.heap.size := by have := BY.lt; omega
    have nR0 : (w.heap.size + 1 + 1 = v3.heap.size) = False := eq_false (by have := BR.lt; omega)
    have mR0 : w.heap.size + 1 + 1 < v3.heap.size := by have := BR.lt; omega
    have nR1 : (w.heap.size + 1 = v3.heap.size) = False := eq_false (by have := BR.lt; omega)
    have mR1 : w.heap.size + 1 < v3.heap.size := by have := BR.lt; omega
    have nH0 : (b2 = v3.heap.size) = False := eq_false (by have := BH.lt; omega)
    have mH0 : b2 < v3.heap.size := by have := BH.lt; omega
    have nH1 : (b2 = v3.heap.size + 1) = False := eq_false (by have := BH.lt; omega)
    have mH1 : b2 < v3.heap.size + 1 := by have := BH.lt; omega
    clear kT kY kR kH zR nT0 mT0 nT1 mT1 nY0 mY0 nY1 mY1 nR0 mR0 nR1 mR1 nH0 mH0 nH1 mH1
    apply Ls.region (w.heap.size + 1 + 1) (.cells #[.int .i64 (-1), .float .f64 0, .float .f64 0, .float .f64 0] 35) _ 6 (by kernel_rfl) (by kernel_rfl) (by kernel_rfl)
    apply Lw.facts
    · intro w1 hw
      exact (hw.keep BH (by omega)).cell
    intro HF
    iterate 2 (
      apply Lw.one ?_ rfl
      · intro w hw
        have k0 := HF.out _ hw
        go_simp
        exact rfl
      intro K hK
      go_simp
      refine hK.out _ ?_
      clear hK K)
    apply Lw.any rfl
    · intro w hw
      go_simp
      exact Ls.ret (miss_any _)
    intro K hK
    rintro v rfl
    go_simp
    refine hK.out _ ?_
    clear hK K
    iterate 1 (
      apply Lw.one ?_ rfl
      · intro w hw
        go_simp
        exact rfl
      intro K hK
      go_simp
      refine hK.out _ ?_
      clear hK K)
    apply Lw.anyW (V := fun _ w' => w'.heap[w.heap.size + 1 + 1]? = some (.cells #[.int .i64 (-1), .float .f64 0, .float .f64 0, .float .f64 0] 35)) rfl
    · exact fun _ => Ls.along_new
    · intro w hw _
      rcases hw.old BR with h | h
      all_goals
        have kR := h.cell
        have zR := h.frz
        go_simp
        exact ⟨((((Lp.Bk.set h 0 _).set 1 _).set 2 _).set 3 _), Ls.stored rfl rfl rfl (by simp [World.setCell]) (fun k hk => Ls.same_set hk (Ls.same_set hk (Ls.same_set hk (Ls.same_set hk rfl)))) ((((Lp.Bk.set h 0 _).set 1 _).set 2 _).set 3 _)⟩
    intro K hK v _
    go_simp
    refine hK.out _ _ ?_
    clear hK K
    iterate 1 (
      apply Lw.one ?_ rfl
      · intro w hw
        go_simp
        exact rfl
      intro K hK
      go_simp
      refine hK.out _ ?_
      clear hK K)
    rotate_left
    exact []
    refine Lw.finE ?_
    intro v4 hm hE
    have BR4 : Lp.Bk v4 (w.heap.size + 1 + 1) #[.int .i64 (-1), .float .f64 0, .float .f64 0, .float .f64 0] 35 := (hE 4).2 rfl
    have kR4 := BR4.cell
    have HB4 := hm.cl HB (by omega)
    clear hm hE
    go_wp2_with fail
    refine bodyPost_ret (v := .tuple #[.agg #[.int .i64 (-1), .float .f64 0, .float .f64 0, .float .f64 0], .bool false]) (by simp [results, go_sem, kR4]) rfl ⟨_, rfl, rfl, ?_⟩
    repeat (refine Below.setCell ?_ (by dsimp only; omega) _)
    exact HB4
  · simp only [hitV] at HA
    simp only [hitV, Option.isSome]
    have HB : Cl w w := Below.refl _ _
    go_enter Tryz.func44, Tryz.ntmps44
    go_wp2_with fail
    refine Lp.settle (fun w' => Lp.Bk w' (w.heap.size) #[.float .f64 A.x, .float .f64 A.y, .float .f64 A.z, .float .f64 B.x, .float .f64 B.y, .float .f64 B.z, .float .f64 C.x, .float .f64 C.y, .float .f64 C.z] 60 ∧ Lp.Bk w' (w.heap.size + 1) #[.float .f64 O.x, .float .f64 O.y, .float .f64 O.z, .float .f64 D.x, .float .f64 D.y, .float .f64 D.z] 27 ∧ Lp.Bk w' (w.heap.size + 1 + 1) #[.int .i64 0, .float .f64 0, .float .f64 0, .float .f64 0] 35 ∧ Cl w w') ⟨((Lp.Bk.al _ _ _).alo _).alo _, (Lp.Bk.al1 _ _ _ _).alo _, Lp.Bk.al2 _ _ _ _ _, (((HB).alloc _).alloc _).alloc _⟩ ?_
    clear HB
    rintro v1 ⟨BT, BY, BR, HB⟩
    have kT := BT.cell
    have kY := BY.cell
    have kR := BR.cell
    have zR := BR.frz
    have nT0 : (w.heap.size = v1.heap.size) = False := eq_false (by have := BT.lt; omega)
    have mT0 : w.heap.size < v1.heap.size := by have := BT.lt; omega
    have nT1 : (w.heap.size = v1.heap.size + 1) = False := eq_false (by have := BT.lt; omega)
    have mT1 : w.heap.size < v1.heap.size + 1 := by have := BT.lt; omega
    have nY0 : (w.heap.size + 1 = v1.heap.size) = False := eq_false (by have := BY.lt; omega)
    have mY0 : w.heap.size + 1 < v1.heap.size := by have := BY.lt; omega
    have nY1 : (w.heap.size = v1.heap.size) = False := eq_false (by have := BY.lt; omega)
    have mY1 : w.heap.size < v1.heap.size := by have := BY.lt; omega
    have nR0 : (w.heap.size + 1 + 1 = v1.heap.size) = False := eq_false (by have := BR.lt; omega)
    have mR0 : w.heap.size + 1 + 1 < v1.heap.size := by have := BR.lt; omega
    have nR1 : (w.heap.size + 1 = v1.heap.size) = False := eq_false (by have := BR.lt; omega)
    have mR1 : w.heap.size + 1 < v1.heap.size := by have := BR.lt; omega
    have hlt : w.heap.size + 1 + 1 < v1.heap.size := BR.lt
    apply Lw.region _ _ 5 (by kernel_rfl) (by kernel_rfl) (by kernel_rfl) (Below.refl _ _)
    apply Lw.facts
    · intro w1 hw
      exact And.intro (BT.cl hw).cell (And.intro (BY.cl hw).cell ((BR.cl hw).cell))
    intro HF
    iterate 1 (
      apply Lw.one ?_ rfl
      · intro w hw
        obtain ⟨k0, k1, k2⟩ := HF.out _ hw
        go_simp
        exact rfl
      intro K hK
      go_simp
      refine hK.out _ ?_
      clear hK K)
    apply Lw.anyW (V := fun v w' => ∃ b, v = .func (.func 88) #[] #[.pointer (some ⟨b, 0, none⟩)] ∧ w'.heap[b]? = some (.cells #[.float .f64 O.x, .float .f64 O.y, .float .f64 O.z, .float .f64 D.x, .float .f64 D.y, .float .f64 D.z] 27)) rfl
    · exact fun v x y hb ⟨b, e, h⟩ => ⟨b, e, Lp.Bk.keep h hb⟩
    · intro w hw _
      go_simp
      exact Calls.mono (asker_any O D _) fun e w' ⟨he, hb, hk⟩ => ⟨_, he, ⟨_, rfl, hk⟩, hb⟩
    intro K hK v hv
    obtain ⟨_, _, b, rfl, _⟩ := hv
    go_simp
    refine hK.out _ _ ?_
    clear hK K
    iterate 1 (
      apply Lw.one ?_ rfl
      · intro w hw
        obtain ⟨k0, k1, k2⟩ := HF.out _ hw
        go_simp
        exact rfl
      intro K hK
      go_simp
      refine hK.out _ ?_
      clear hK K)
    apply Lw.anyN rfl
    · intro w hw hN
      obtain ⟨b', e, hk⟩ := (hN 1 (by kernel_rfl)).2 rfl
      cases e
      clear hN
      go_simp
      exact Lw.ret (HA.out b _ hk)
    intro K hK
    rintro v rfl
    go_simp
    refine hK.out _ ?_
    clear hK K
    apply Lw.new _ rfl
    · intro w hw
      go_simp
      exact rfl
    intro K hK b2 hb2
    go_simp
    refine hK.out _ _ ?_
    clear hK K
    rotate_left
    exact []
    refine Lw.finE ?_
    intro v2 hm hE
    have BH : Lp.Bk v2 b2 #[.int .i64 0, .float .f64 0, .float .f64 0, .float .f64 0] 35 := ((hE 4).2 rfl).2
    clear hE
    clear kT kY kR zR nT0 mT0 nT1 mT1 nY0 mY0 nY1 mY1 nR0 mR0 nR1 mR1
    replace BT := BT.keep hm
    replace BY := BY.keep hm
    replace BR := BR.keep hm
    replace HB := HB.call hm
    have kT := BT.cell
    have kY := BY.cell
    have kR := BR.cell
    have kH := BH.cell
    have zR := BR.frz
    have zH := BH.frz
    have nT0 : (w.heap.size = v2.heap.size) = False := eq_false (by have := BT.lt; omega)
    have mT0 : w.heap.size < v2.heap.size := by have := BT.lt; omega
    have nT1 : (w.heap.size = v2.heap.size + 1) = False := eq_false (by have := BT.lt; omega)
    have mT1 : w.heap.size < v2.heap.size + 1 := by have := BT.lt; omega
    have nY0 : (w.heap.size + 1 = v2.heap.size) = False := eq_false (by have := BY.lt; omega)
    have mY0 : w.heap.size + 1 < v2.heap.size := by have := BY.lt; omega
    have nY1 : (w.heap.size = v2.heap.size) = False := eq_false (by have := BY.lt; omega)
    have mY1 : w.heap.size < v2.heap.size := by have := BY.lt; omega
    have nR0 : (w.heap.size + 1 + 1 = v2.heap.size) = False := eq_false (by have := BR.lt; omega)
    have mR0 : w.heap.size + 1 + 1 < v2.heap.size := by have := BR.lt; omega
    have nR1 : (w.heap.size + 1 = v2.heap.size) = False := eq_false (by have := BR.lt; omega)
    have mR1 : w.heap.size + 1 < v2.heap.size := by have := BR.lt; omega
    have nH0 : (b2 = v2.heap.size) = False := eq_false (by have := BH.lt; omega)
    have mH0 : b2 < v2.heap.size := by have := BH.lt; omega
    have nH1 : (b2 = v2.heap.size + 1) = False := eq_false (by have := BH.lt; omega)
    have mH1 : b2 < v2.heap.size + 1 := by have := BH.lt; omega
    go_wp2_with fail
    refine Lp.settle (fun w' => Lp.Bk w' (w.heap.size) #[.float .f64 A.x, .float .f64 A.y, .float .f64 A.z, .float .f64 B.x, .float .f64 B.y, .float .f64 B.z, .float .f64 C.x, .float .f64 C.y, .float .f64 C.z] 60 ∧ Lp.Bk w' (w.heap.size + 1) #[.float .f64 O.x, .float .f64 O.y, .float .f64 O.z, .float .f64 D.x, .float .f64 D.y, .float .f64 D.z] 27 ∧ Lp.Bk w' (w.heap.size + 1 + 1) #[.int .i64 0, .float .f64 0, .float .f64 0, .float .f64 0] 35 ∧ Lp.Bk w' (b2) #[.int .i64 0, .float .f64 h.x, .float .f64 h.y, .float .f64 h.z] 35 ∧ Cl w w') ⟨(by (repeat (refine Lp.Bk.seto ?_ (by dsimp only; omega) _)); exact BT), (by (repeat (refine Lp.Bk.seto ?_ (by dsimp only; omega) _)); exact BY), (by (repeat (refine Lp.Bk.seto ?_ (by dsimp only; omega) _)); exact BR), ((((BH.set 0 _).set 1 _).set 2 _).set 3 _), (by (repeat (refine Below.setCell ?_ (by dsimp only; omega) _)); exact HB)⟩ ?_
    clear kT kY kR kH zR zH nT0 mT0 nT1 mT1 nY0 mY0 nY1 mY1 nR0 mR0 nR1 mR1 nH0 mH0 nH1 mH1
    clear BT BY BR BH HB
    rintro v3 ⟨BT, BY, BR, BH, HB⟩
    have kT := BT.cell
    have kY := BY.cell
    have kR := BR.cell
    have kH := BH.cell
    have zR := BR.frz
    have nT0 : (w.heap.size = v3.heap.size) = False := eq_false (by have := BT.lt; omega)
    have mT0 : w.heap.size < v3.heap.size := by have := BT.lt; omega
    have nT1 : (w.heap.size = v3.heap.size + 1) = False := eq_false (by have := BT.lt; omega)
    have mT1 : w.heap.size < v3.heap.size + 1 := by have := BT.lt; omega
    have nY0 : (w.heap.size + 1 = v3.heap.size) = False := eq_false (by have := BY.lt; omega)
    have mY0 : w.heap.size + 1 < v3.heap.size := by have := BY.lt; omega
    have nY1 : (w.heap.size = v3.heap.size) = False := eq_false (by have := BY.lt; omega)
    have mY1 : w.heap.size < v3.heap.size := by have := BY.lt; omega
    have nR0 : (w.heap.size + 1 + 1 = v3.heap.size) = False := eq_false (by have := BR.lt; omega)
    have mR0 : w.heap.size + 1 + 1 < v3.heap.size := by have := BR.lt; omega
    have nR1 : (w.heap.size + 1 = v3.heap.size) = False := eq_false (by have := BR.lt; omega)
    have mR1 : w.heap.size + 1 < v3.heap.size := by have := BR.lt; omega
    have nH0 : (b2 = v3.heap.size) = False := eq_false (by have := BH.lt; omega)
    have mH0 : b2 < v3.heap.size := by have := BH.lt; omega
    have nH1 : (b2 = v3.heap.size + 1) = False := eq_false (by have := BH.lt; omega)
    have mH1 : b2 < v3.heap.size + 1 := by have := BH.lt; omega
    clear kT kY kR kH zR nT0 mT0 nT1 mT1 nY0 mY0 nY1 mY1 nR0 mR0 nR1 mR1 nH0 mH0 nH1 mH1
    apply Ls.region (w.heap.size + 1 + 1) (.cells #[.int .i64 0, .float .f64 h.x, .float .f64 h.y, .float .f64 h.z] 35) _ 6 (by kernel_rfl) (by kernel_rfl) (by kernel_rfl)
    apply Lw.facts
    · intro w1 hw
      exact (hw.keep BH (by omega)).cell
    intro HF
    iterate 2 (
      apply Lw.one ?_ rfl
      · intro w hw
        have k0 := HF.out _ hw
        go_simp
        exact rfl
      intro K hK
      go_simp
      refine hK.out _ ?_
      clear hK K)
    apply Lw.any rfl
    · intro w hw
      go_simp
      exact Ls.ret (miss_any _)
    intro K hK
    rintro v rfl
    go_simp
    refine hK.out _ ?_
    clear hK K
    iterate 1 (
      apply Lw.one ?_ rfl
      · intro w hw
        go_simp
        exact rfl
      intro K hK
      go_simp
      refine hK.out _ ?_
      clear hK K)
    apply Lw.anyW (V := fun _ w' => w'.heap[w.heap.size + 1 + 1]? = some (.cells #[.int .i64 0, .float .f64 h.x, .float .f64 h.y, .float .f64 h.z] 35)) rfl
    · exact fun _ => Ls.along_new
    · intro w hw _
      rcases hw.old BR with h | h
      all_goals
        have kR := h.cell
        have zR := h.frz
        go_simp
        exact ⟨((((Lp.Bk.set h 0 _).set 1 _).set 2 _).set 3 _), Ls.stored rfl rfl rfl (by simp [World.setCell]) (fun k hk => Ls.same_set hk (Ls.same_set hk (Ls.same_set hk (Ls.same_set hk rfl)))) ((((Lp.Bk.set h 0 _).set 1 _).set 2 _).set 3 _)⟩
    intro K hK v _
    go_simp
    refine hK.out _ _ ?_
    clear hK K
    iterate 1 (
      apply Lw.one ?_ rfl
      · intro w hw
        go_simp
        exact rfl
      intro K hK
      go_simp
      refine hK.out _ ?_
      clear hK K)
    rotate_left
    exact []
    refine Lw.finE ?_
    intro v4 hm hE
    have BR4 : Lp.Bk v4 (w.heap.size + 1 + 1) #[.int .i64 0, .float .f64 h.x, .float .f64 h.y, .float .f64 h.z] 35 := (hE 4).2 rfl
    have kR4 := BR4.cell
    have HB4 := hm.cl HB (by omega)
    clear hm hE
    go_wp2_with fail
    refine bodyPost_ret (v := .tuple #[.agg #[.int .i64 0, .float .f64 h.x, .float .f64 h.y, .float .f64 h.z], .bool true]) (by simp [results, go_sem, kR4]) rfl ⟨_, rfl, rfl, ?_⟩
    repeat (refine Below.setCell ?_ (by dsimp only; omega) _)
    exact HB4

end Go.Proofs.YtiblmojdjnfoaaaGreat

namespace Go.Proofs.YtiblmojdjnfoaaaGreat
open Go.RowKit Fl Lm

theorem meet_c (O D : V3) (t : Tr) (w : World) : Ret Tryz.prog 44 #[.agg #[.float .f64 t.t0, .float .f64 t.t1, .float .f64 t.t2, .float .f64 t.t3, .float .f64 t.t4, .float .f64 t.t5, .float .f64 t.t6, .float .f64 t.t7, .float .f64 t.t8], .agg #[.float .f64 O.x, .float .f64 O.y, .float .f64 O.z, .float .f64 D.x, .float .f64 D.y, .float .f64 D.z]] w (fun v => v = .tuple #[hitV (meetT O D t), .bool (meetT O D t).isSome]) := meet_any (trA t) (trB t) (trC t) O D w
/-- What is asked: where triangle i is met, if it is not skipped. -/
def metK (T : Nat → Tr) (K : List Int) (O D : V3) (i : Nat) : Option V3 := if (i : Int) ∈ K then none else meetT O D (T i)
theorem metK_num (T : Nat → Tr) (K : List Int) (O D : V3) : Num3 (metK T K O D) := fun i h e => by
  unfold metK at e
  split at e
  · cases e
  · exact (meet_num e).1
theorem metK_fine (T : Nat → Tr) (K : List Int) (O D : V3) (i : Nat) : (askN (metK T K O D) i).Fine := fun j h e => by
  unfold askN metK at e
  split at e
  · cases e
  · cases k : meetT O D (T i) with
    | none => rw [k] at e; cases e
    | some g => rw [k] at e; cases e; exact ⟨(meet_num k).1, meet_wd k⟩
/-- What the function has captured. -/
structure AskR (w : World) (gl gs gr : Nat) (n : Nat) (T : Nat → Tr) (K : List Int) (O D : V3) : Prop where
  l : ∃ ao c, Lp.Bk w gl #[.slice ao n c] 22 ∧ Sl w ao n 9 fun i => tcs (T i)
  s : ∃ ao c, Lp.Bk w gs #[.slice ao K.length c] 28 ∧ Sl w ao K.length 1 (kvs K)
  r : Lp.Bk w gr #[.float .f64 O.x, .float .f64 O.y, .float .f64 O.z, .float .f64 D.x, .float .f64 D.y, .float .f64 D.z] 27
theorem AskR.keep {w w' : World} {gl gs gr n : Nat} {T : Nat → Tr} {K : List Int} {O D : V3} (h : AskR w gl gs gr n T K O D) (hb : Below w.heap.size w w') : AskR w' gl gs gr n T K O D := by
  obtain ⟨⟨al, cl, l1, l2⟩, ⟨az, cs, s1, s2⟩, r⟩ := h
  exact ⟨⟨al, cl, l1.keep hb, l2.keep hb⟩, ⟨az, cs, s1.keep hb, s2.keep hb⟩, r.keep hb⟩
def askV (gl gs gr : Nat) : Value := .func (.func 42) #[] #[.pointer (some ⟨gl, 0, none⟩), .pointer (some ⟨gs, 0, none⟩), .pointer (some ⟨gr, 0, none⟩)]

set_option maxRecDepth 100000 in
set_option maxHeartbeats 1000000 in
theorem asker_c (T : Nat → Tr) (K : List Int) (O D : V3) (n c cs : Nat) (ao az : Option Addr) (w : World) (hL : Sl w ao n 9 fun i => tcs (T i)) (hK : Sl w az K.length 1 (kvs K)) :
    Calls Tryz.prog 22 #[.slice ao n c, .agg #[.float .f64 O.x, .float .f64 O.y, .float .f64 O.z, .float .f64 D.x, .float .f64 D.y, .float .f64 D.z], .slice az K.length cs] w fun e w' => ∃ gl gs gr, e = .returned (askV gl gs gr) ∧ AskR w' gl gs gr n T K O D ∧ Cl w w' := by
  have HL := hid hL
  have HK := hid hK
  clear hL hK
  go_enter Tryz.func22, Tryz.ntmps22
  go_wp2_with fail
  go_ret
  refine ⟨_, _, _, rfl, ⟨⟨ao, c, ((Lp.Bk.al _ _ _).alo _).alo _, HL.out.keep ?_⟩, ⟨az, cs, Lp.Bk.al2 _ _ _ _ _, HK.out.keep ?_⟩, (Lp.Bk.al1 _ _ _ _).alo _⟩, ?_⟩
  all_goals exact (((Below.refl _ _).alloc (Nat.le_refl _) _).alloc (by simp) _).alloc (by simp <;> omega) _

set_option maxRecDepth 100000 in
set_option maxHeartbeats 2000000 in
theorem ask1_any (T : Nat → Tr) (K : List Int) (O D : V3) (n i gl gs gr : Nat) (w : World) (hR : AskR w gl gs gr n T K O D) (hi : i < n) (hn : n ≤ 1000) (h5 : K.length ≤ 1000) :
    Ret Tryz.prog 42 #[.int .i64 (i : Nat), .pointer (some ⟨gl, 0, none⟩), .pointer (some ⟨gs, 0, none⟩), .pointer (some ⟨gr, 0, none⟩)] w (fun v => v = hitN (askN (metK T K O D) i)) := by
  unfold Ret
  obtain ⟨⟨ao, c, BL, hL⟩, ⟨az, cs, BS, hS⟩, BY⟩ := hR
  have HC := hid (fun w' (hw : Below w.heap.size w w') => contains_int K (i : Nat) cs az w' (hS.keep hw) h5)
  have HR := aside (show hitN (askN (metK T K O D) i) = if (i : Int) ∈ K then hitN none else hitN (askN (fun i => meetT O D (T i)) i) by unfold askN metK; split <;> rfl)
  obtain ⟨gz, oz, rfl, EZ0⟩ := hL.get hi
  have EZ := hid EZ0
  clear hS hL
  have hlt : w.heap.size = w.heap.size := rfl
  have ge : (((n : Nat) : Int) ≤ (i : Nat)) = False := eq_false (by omega)
  have hi5 : i < 1000 := by omega
  have HI := aside hi
  have hgz := EZ0.lt
  have hgl := BL.lt
  have hgs := BS.lt
  have hgr := BY.lt
  clear EZ0 hlt
  have kL := BL.cell
  have kS := BS.cell
  have kY := BY.cell
  have e1 : (gl = w.heap.size) = False := eq_false (by omega)
  have e2 : (gs = w.heap.size) = False := eq_false (by omega)
  have e3 : (gr = w.heap.size) = False := eq_false (by omega)
  by_cases hk : (i : Int) ∈ K
  · have hdk : decide ((i : Int) ∈ K) = true := decide_eq_true hk
    rw [hdk] at HC
    have HR2 := aside (show hitN (askN (metK T K O D) i) = hitN none by rw [HR.out, if_pos hk])
    clear hk hdk HR
    go_enter Tryz.func42, Tryz.ntmps42
    go_wp2_with fail
    refine Calls.mono (HC.out _ ((Below.refl _ _).alloc (Nat.le_refl _) _)) ?_
    rintro e w1 ⟨rfl, rfl⟩
    go_wp2_with fail
    refine Calls.mono (nothing_any _) ?_
    rintro e w1 ⟨v, rfl, rfl, hm⟩
    have BR : Lp.Bk w1 w.heap.size #[.int .i64 0, .float .f64 0, .float .f64 0, .float .f64 0] 35 := (Lp.Bk.al _ _ _).keep hm
    have HB : Cl w w1 := (show Cl w _ from (Below.refl _ _).alloc (Nat.le_refl _) _).call hm
    clear hm HC
    have kR := BR.cell
    have zR := BR.frz
    go_wp2_with fail
    refine bodyPost_ret (v := .agg #[.int .i64 (-1), .float .f64 0, .float .f64 0, .float .f64 0]) (by simp [results, go_sem, kR]) rfl ⟨_, rfl, by rw [HR2.out]; rfl, ?_⟩
    repeat (refine Below.setCell ?_ (by dsimp only; omega) _)
    exact HB
  · have hdk : decide ((i : Int) ∈ K) = false := decide_eq_false hk
    rw [hdk] at HC
    have HR2 := aside (show hitN (askN (metK T K O D) i) = hitN (askN (fun i => meetT O D (T i)) i) by rw [HR.out, if_neg hk])
    clear hk hdk HR
    have HM := hid (fun w' => meet_c O D (T i) w')
    have HQ := aside (show hitN (askN (fun i => meetT O D (T i)) i) = hitN ((meetT O D (T i)).map fun h => (i, h)) from rfl)
    rw [HQ.out] at HR2
    clear HQ
    generalize hmm : meetT O D (T i) = M at *
    generalize htt : T i = t at *
    have HT := aside htt
    clear hmm htt
    have HB : Cl w w := Below.refl _ _
    go_enter Tryz.func42, Tryz.ntmps42
    go_wp2_with fail
    refine Calls.mono (HC.out _ ((Below.refl _ _).alloc (Nat.le_refl _) _)) ?_
    rintro e w1 ⟨rfl, rfl⟩
    go_wp2_with fail
    refine Lp.settle (fun w' => Lp.Bk w' gl #[.slice (some ⟨gz, oz, none⟩) n c] 22 ∧ Lp.Bk w' gr #[.float .f64 O.x, .float .f64 O.y, .float .f64 O.z, .float .f64 D.x, .float .f64 D.y, .float .f64 D.z] 27 ∧ Els w' gz oz n 9 (fun i => tcs (T i)) ∧ Lp.Bk w' w.heap.size #[.int .i64 0, .float .f64 0, .float .f64 0, .float .f64 0] 35 ∧ Cl w w') ⟨BL.alo _, BY.alo _, EZ.out.alo _, Lp.Bk.al _ _ _, HB.alloc _⟩ ?_
    clear HB kL kS kY BL BS BY HC EZ
    rintro v1 ⟨BL, BY, EZ0, BR, HB⟩
    have EZ := hid EZ0
    clear EZ0
    have kR := BR.cell
    have zR := BR.frz
    clear kR zR
    rcases M with _ | h
    · simp only [hitV, Option.isSome, Option.map_none] at HM HR2
      have HS := hid (fun w' (hb : Below v1.heap.size v1 w') => show Below v1.heap.size v1 w' ∧ w'.cell? ⟨gl, 0, none⟩ = some (.slice (some ⟨gz, oz, none⟩) n c) ∧ w'.cell? ⟨gz, oz + i * 9, none⟩ = some (.float .f64 t.t0) ∧ w'.cell? ⟨gz, oz + i * 9 + 1, none⟩ = some (.float .f64 t.t1) ∧ w'.cell? ⟨gz, oz + i * 9 + 2, none⟩ = some (.float .f64 t.t2) ∧ w'.cell? ⟨gz, oz + i * 9 + 3, none⟩ = some (.float .f64 t.t3) ∧ w'.cell? ⟨gz, oz + i * 9 + 4, none⟩ = some (.float .f64 t.t4) ∧ w'.cell? ⟨gz, oz + i * 9 + 5, none⟩ = some (.float .f64 t.t5) ∧ w'.cell? ⟨gz, oz + i * 9 + 6, none⟩ = some (.float .f64 t.t6) ∧ w'.cell? ⟨gz, oz + i * 9 + 7, none⟩ = some (.float .f64 t.t7) ∧ w'.cell? ⟨gz, oz + i * 9 + 8, none⟩ = some (.float .f64 t.t8) ∧ w'.cell? ⟨gr, 0, none⟩ = some (.float .f64 O.x) ∧ w'.cell? ⟨gr, 1, none⟩ = some (.float .f64 O.y) ∧ w'.cell? ⟨gr, 2, none⟩ = some (.float .f64 O.z) ∧ w'.cell? ⟨gr, 3, none⟩ = some (.float .f64 D.x) ∧ w'.cell? ⟨gr, 4, none⟩ = some (.float .f64 D.y) ∧ w'.cell? ⟨gr, 5, none⟩ = some (.float .f64 D.z) from by
        have a0 := (BL.keep hb).cell 0
        have a1 := tat (EZ.out.keep hb) HI.out
        have a2 := (BY.keep hb).cell
        rw [HT.out] at a1
        exact ⟨hb, a0, a1.1, a1.2.1, a1.2.2.1, a1.2.2.2.1, a1.2.2.2.2.1, a1.2.2.2.2.2.1, a1.2.2.2.2.2.2.1, a1.2.2.2.2.2.2.2.1, a1.2.2.2.2.2.2.2.2, a2 0, a2 1, a2 2, a2 3, a2 4, a2 5⟩)
      have HBR := hid BR
      have HB1 := hid HB
      have hwv : w.heap.size < v1.heap.size := BR.lt
      clear BL BY BR HB EZ
      go_region_held3 (fun w' => Below v1.heap.size v1 w' ∧ w'.cell? ⟨gl, 0, none⟩ = some (.slice (some ⟨gz, oz, none⟩) n c) ∧ w'.cell? ⟨gz, oz + i * 9, none⟩ = some (.float .f64 t.t0) ∧ w'.cell? ⟨gz, oz + i * 9 + 1, none⟩ = some (.float .f64 t.t1) ∧ w'.cell? ⟨gz, oz + i * 9 + 2, none⟩ = some (.float .f64 t.t2) ∧ w'.cell? ⟨gz, oz + i * 9 + 3, none⟩ = some (.float .f64 t.t3) ∧ w'.cell? ⟨gz, oz + i * 9 + 4, none⟩ = some (.float .f64 t.t4) ∧ w'.cell? ⟨gz, oz + i * 9 + 5, none⟩ = some (.float .f64 t.t5) ∧ w'.cell? ⟨gz, oz + i * 9 + 6, none⟩ = some (.float .f64 t.t6) ∧ w'.cell? ⟨gz, oz + i * 9 + 7, none⟩ = some (.float .f64 t.t7) ∧ w'.cell? ⟨gz, oz + i * 9 + 8, none⟩ = some (.float .f64 t.t8) ∧ w'.cell? ⟨gr, 0, none⟩ = some (.float .f64 O.x) ∧ w'.cell? ⟨gr, 1, none⟩ = some (.float .f64 O.y) ∧ w'.cell? ⟨gr, 2, none⟩ = some (.float .f64 O.z) ∧ w'.cell? ⟨gr, 3, none⟩ = some (.float .f64 D.x) ∧ w'.cell? ⟨gr, 4, none⟩ = some (.float .f64 D.y) ∧ w'.cell? ⟨gr, 5, none⟩ = some (.float .f64 D.z)) (first | assumption | exact HS.out _ (by (repeat (first | exact Below.refl _ _ | assumption | exact Below.drew (Below.refl _ _) | refine Below.drew ?_ | refine Below.alloc ?_ (by simp) _ | refine Below.alloc ?_ (by have := Below.size (by assumption : Below v1.heap.size v1 _); omega) _ | refine Below.setCell ?_ (by simp) _ | refine Below.setCell ?_ (by have := Below.size (by assumption : Below v1.heap.size v1 _); dsimp only; omega) _))))
        (first
         | (go_at_call 44; refine Calls.mono (HM.out _) ?_; rintro e w5 ⟨v, rfl, rfl, hm⟩; have HB5 : Below v1.heap.size v1 w5 := (by refine Below.trans ?_ (Below.mono hm ?_); (repeat (first | exact Below.refl _ _ | assumption | exact Below.drew (Below.refl _ _) | refine Below.drew ?_ | refine Below.alloc ?_ (by simp) _ | refine Below.alloc ?_ (by have := Below.size (by assumption : Below v1.heap.size v1 _); omega) _ | refine Below.setCell ?_ (by simp) _ | refine Below.setCell ?_ (by have := Below.size (by assumption : Below v1.heap.size v1 _); dsimp only; omega) _)); (simp)); have HS5 := HS.out _ HB5; (first | (have BN : Lp.Bk w5 v1.heap.size #[.int .i64 0, .float .f64 0, .float .f64 0, .float .f64 0] 35 := (by refine Lp.Bk.keep ?_ hm; exact Lp.Bk.al v1 _ _); have kN := BN.cell; have zN := BN.frz; have hlN := BN.lt) | skip); clear hm)
         | fail)
      all_goals
        have BR := HBR.out.keep HB5
        have HB : Cl w w5 := HB1.out.trans (HB5.mono (Nat.le_of_lt hwv))
        have hlt5 : w.heap.size < w5.heap.size := BR.lt
        have hnb : (w.heap.size = w5.heap.size) = False := eq_false (by omega)
        have hnb2 : (w5.heap.size = w.heap.size) = False := eq_false (by omega)
        have hnb3 : (w.heap.size = v1.heap.size) = False := eq_false (by omega)
        have hnb4 : (v1.heap.size = w.heap.size) = False := eq_false (by omega)
        have kR := BR.cell
        have zR := BR.frz
        clear HBR HB1 HB5 HS HS5 BR
        go_wp2_with fail
        refine bodyPost_ret (v := .agg #[.int .i64 (-1), .float .f64 0, .float .f64 0, .float .f64 0]) (by simp [results, go_sem, kR, hlt5]) rfl ⟨_, rfl, HR2.out.symm, ?_⟩
      rotate_left
      · (repeat (refine Below.setCell ?_ (by dsimp only; omega) _)); exact HB
      · refine Below.alloc ?_ (by simp; omega) _
        (repeat (refine Below.setCell ?_ (by dsimp only; omega) _)); exact HB
    · simp only [hitV, Option.isSome, Option.map_some] at HM HR2
      have HS := hid (fun w' (hb : Below v1.heap.size v1 w') => show Below v1.heap.size v1 w' ∧ w'.cell? ⟨gl, 0, none⟩ = some (.slice (some ⟨gz, oz, none⟩) n c) ∧ w'.cell? ⟨gz, oz + i * 9, none⟩ = some (.float .f64 t.t0) ∧ w'.cell? ⟨gz, oz + i * 9 + 1, none⟩ = some (.float .f64 t.t1) ∧ w'.cell? ⟨gz, oz + i * 9 + 2, none⟩ = some (.float .f64 t.t2) ∧ w'.cell? ⟨gz, oz + i * 9 + 3, none⟩ = some (.float .f64 t.t3) ∧ w'.cell? ⟨gz, oz + i * 9 + 4, none⟩ = some (.float .f64 t.t4) ∧ w'.cell? ⟨gz, oz + i * 9 + 5, none⟩ = some (.float .f64 t.t5) ∧ w'.cell? ⟨gz, oz + i * 9 + 6, none⟩ = some (.float .f64 t.t6) ∧ w'.cell? ⟨gz, oz + i * 9 + 7, none⟩ = some (.float .f64 t.t7) ∧ w'.cell? ⟨gz, oz + i * 9 + 8, none⟩ = some (.float .f64 t.t8) ∧ w'.cell? ⟨gr, 0, none⟩ = some (.float .f64 O.x) ∧ w'.cell? ⟨gr, 1, none⟩ = some (.float .f64 O.y) ∧ w'.cell? ⟨gr, 2, none⟩ = some (.float .f64 O.z) ∧ w'.cell? ⟨gr, 3, none⟩ = some (.float .f64 D.x) ∧ w'.cell? ⟨gr, 4, none⟩ = some (.float .f64 D.y) ∧ w'.cell? ⟨gr, 5, none⟩ = some (.float .f64 D.z) from by
        have a0 := (BL.keep hb).cell 0
        have a1 := tat (EZ.out.keep hb) HI.out
        have a2 := (BY.keep hb).cell
        rw [HT.out] at a1
        exact ⟨hb, a0, a1.1, a1.2.1, a1.2.2.1, a1.2.2.2.1, a1.2.2.2.2.1, a1.2.2.2.2.2.1, a1.2.2.2.2.2.2.1, a1.2.2.2.2.2.2.2.1, a1.2.2.2.2.2.2.2.2, a2 0, a2 1, a2 2, a2 3, a2 4, a2 5⟩)
      have HBR := hid BR
      have HB1 := hid HB
      have hwv : w.heap.size < v1.heap.size := BR.lt
      clear BL BY BR HB EZ
      go_region_held3 (fun w' => Below v1.heap.size v1 w' ∧ w'.cell? ⟨gl, 0, none⟩ = some (.slice (some ⟨gz, oz, none⟩) n c) ∧ w'.cell? ⟨gz, oz + i * 9, none⟩ = some (.float .f64 t.t0) ∧ w'.cell? ⟨gz, oz + i * 9 + 1, none⟩ = some (.float .f64 t.t1) ∧ w'.cell? ⟨gz, oz + i * 9 + 2, none⟩ = some (.float .f64 t.t2) ∧ w'.cell? ⟨gz, oz + i * 9 + 3, none⟩ = some (.float .f64 t.t3) ∧ w'.cell? ⟨gz, oz + i * 9 + 4, none⟩ = some (.float .f64 t.t4) ∧ w'.cell? ⟨gz, oz + i * 9 + 5, none⟩ = some (.float .f64 t.t5) ∧ w'.cell? ⟨gz, oz + i * 9 + 6, none⟩ = some (.float .f64 t.t6) ∧ w'.cell? ⟨gz, oz + i * 9 + 7, none⟩ = some (.float .f64 t.t7) ∧ w'.cell? ⟨gz, oz + i * 9 + 8, none⟩ = some (.float .f64 t.t8) ∧ w'.cell? ⟨gr, 0, none⟩ = some (.float .f64 O.x) ∧ w'.cell? ⟨gr, 1, none⟩ = some (.float .f64 O.y) ∧ w'.cell? ⟨gr, 2, none⟩ = some (.float .f64 O.z) ∧ w'.cell? ⟨gr, 3, none⟩ = some (.float .f64 D.x) ∧ w'.cell? ⟨gr, 4, none⟩ = some (.float .f64 D.y) ∧ w'.cell? ⟨gr, 5, none⟩ = some (.float .f64 D.z)) (first | assumption | exact HS.out _ (by (repeat (first | exact Below.refl _ _ | assumption | exact Below.drew (Below.refl _ _) | refine Below.drew ?_ | refine Below.alloc ?_ (by simp) _ | refine Below.alloc ?_ (by have := Below.size (by assumption : Below v1.heap.size v1 _); omega) _ | refine Below.setCell ?_ (by simp) _ | refine Below.setCell ?_ (by have := Below.size (by assumption : Below v1.heap.size v1 _); dsimp only; omega) _))))
        (first
         | (go_at_call 44; refine Calls.mono (HM.out _) ?_; rintro e w5 ⟨v, rfl, rfl, hm⟩; have HB5 : Below v1.heap.size v1 w5 := (by refine Below.trans ?_ (Below.mono hm ?_); (repeat (first | exact Below.refl _ _ | assumption | exact Below.drew (Below.refl _ _) | refine Below.drew ?_ | refine Below.alloc ?_ (by simp) _ | refine Below.alloc ?_ (by have := Below.size (by assumption : Below v1.heap.size v1 _); omega) _ | refine Below.setCell ?_ (by simp) _ | refine Below.setCell ?_ (by have := Below.size (by assumption : Below v1.heap.size v1 _); dsimp only; omega) _)); (simp)); have HS5 := HS.out _ HB5; (first | (have BN : Lp.Bk w5 v1.heap.size #[.int .i64 0, .float .f64 0, .float .f64 0, .float .f64 0] 35 := (by refine Lp.Bk.keep ?_ hm; exact Lp.Bk.al v1 _ _); have kN := BN.cell; have zN := BN.frz; have hlN := BN.lt) | skip); clear hm)
         | fail)
      all_goals
        have BR := HBR.out.keep HB5
        have HB : Cl w w5 := HB1.out.trans (HB5.mono (Nat.le_of_lt hwv))
        have hlt5 : w.heap.size < w5.heap.size := BR.lt
        have hnb : (w.heap.size = w5.heap.size) = False := eq_false (by omega)
        have hnb2 : (w5.heap.size = w.heap.size) = False := eq_false (by omega)
        have hnb3 : (w.heap.size = v1.heap.size) = False := eq_false (by omega)
        have hnb4 : (v1.heap.size = w.heap.size) = False := eq_false (by omega)
        have kR := BR.cell
        have zR := BR.frz
        clear HBR HB1 HB5 HS HS5 BR
        go_wp2_with fail
        refine bodyPost_ret (v := .agg #[.int .i64 (i : Nat), .float .f64 h.x, .float .f64 h.y, .float .f64 h.z]) (by simp [results, go_sem, kR, hlt5]) rfl ⟨_, rfl, HR2.out.symm, ?_⟩
      rotate_left
      · (repeat (refine Below.setCell ?_ (by dsimp only; omega) _)); exact HB
      · refine Below.alloc ?_ (by simp; omega) _
        (repeat (refine Below.setCell ?_ (by dsimp only; omega) _)); exact HB
end Go.Proofs.YtiblmojdjnfoaaaGreat
