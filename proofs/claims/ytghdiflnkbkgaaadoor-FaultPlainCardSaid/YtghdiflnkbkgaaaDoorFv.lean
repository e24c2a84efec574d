/- The walk of the law FaultChains. -/
import Derived.Test.YtghdiflnkbkgaaaDoorFu
namespace Go.Proofs.YtghdiflnkbkgaaaDoor
open Go.RowKit

theorem goes_chain (R : List (Int × Int)) : ∀ (s : List Int) (d : Int), goes chainStep none s R d = (s ++ R.map (·.1), true) := by
  induction R with
  | nil => intro s d; simp [goes]
  | cons p r ih => obtain ⟨c, l⟩ := p; intro s d; simp [goes, chainStep, ih]

/-- The codes of the faults from the last one down to number j. -/
def downs (I : List (Int × Int)) (j : Nat) : List Int := ((I.drop j).reverse).map (·.1)

theorem downs_end (I : List (Int × Int)) : downs I I.length = [] := by simp [downs]
theorem downs_all (I : List (Int × Int)) : downs I 0 = I.reverse.map (·.1) := by simp [downs]
theorem downs_step (I : List (Int × Int)) (j : Nat) (h : j < I.length) : downs I j = downs I (j + 1) ++ [(I[j]'h).1] := by
  simp only [downs]
  rw [List.drop_eq_getElem_cons h, List.reverse_cons, List.map_append]
  rfl
theorem downs_len (I : List (Int × Int)) (j : Nat) : (downs I j).length = I.length - j := by simp [downs]

theorem flat_code (I : List (Int × Int)) : ∀ (j : Nat) (h : j < I.length), (flat I)[j * 2]? = some (.int .i64 (I[j]'h).1) := by
  induction I with
  | nil => intro j h; simp at h
  | cons p r ih =>
    intro j h
    cases j with
    | zero => simp [flat]
    | succ j =>
      have := ih j (by simpa using h)
      simp only [flat, List.flatMap_cons, List.cons_append, List.nil_append] at this ⊢
      rw [show (j + 1) * 2 = j * 2 + 1 + 1 from by omega]
      simpa using this
theorem flat_line (I : List (Int × Int)) : ∀ (j : Nat) (h : j < I.length), (flat I)[j * 2 + 1]? = some (.int .i64 (I[j]'h).2) := by
  induction I with
  | nil => intro j h; simp at h
  | cons p r ih =>
    intro j h
    cases j with
    | zero => simp [flat]
    | succ j =>
      have := ih j (by simpa using h)
      simp only [flat, List.flatMap_cons, List.cons_append, List.nil_append] at this ⊢
      rw [show (j + 1) * 2 + 1 = j * 2 + 1 + 1 + 1 from by omega]
      simpa using this

/-- Two rows that own the same codes are the same to Errs. -/
theorem errs_owns {w : World} {b1 b2 : Nat} {v1 v2 : Value} {xs : List Int} (h1 : w.ownsRow b1 23 1 v1 xs.length (xs.map (Value.int .i64))) (h2 : w.ownsRow b2 23 1 v2 xs.length (xs.map (Value.int .i64))) (hx : xs.length < 1000) :
    Calls Tryd.prog 14 #[v1, v2] w fun e w' => e = .returned (.bool true) ∧ ∃ nq, w' = w.drewN nq := by
  by_cases h0 : xs.length = 0
  · obtain ⟨a1, c1, rfl⟩ := owns_form h1
    obtain ⟨a2, c2, rfl⟩ := owns_form h2
    rw [h0]
    exact errs_none _ _ _ _ w
  · rcases owns_cells h1 with ⟨_, h⟩ | ⟨g1, c1, rfl, _, _, k1⟩
    · exact absurd h h0
    rcases owns_cells h2 with ⟨_, h⟩ | ⟨g2, c2, rfl, _, _, k2⟩
    · exact absurd h h0
    exact errs_same g1 g2 xs.length c1 c2 (fun j => xs.getD j 0) w hx (fun j hj => k1 j _ (by simp [hj])) (fun j hj => k2 j _ (by simp [hj]))

set_option maxRecDepth 100000 in
set_option maxHeartbeats 400000 in
theorem chain_none (a : Option Addr) (c : Nat) (w : World) : Calls Tryd.prog 6 #[.slice a 0 c] w fun e w' => e = .returned (.tuple #[.nilIface, .slice none 0 0]) ∧ w' = w := by
  go_enter Tryd.func6, Tryd.ntmps6
  go_wp2
  refine wp_loop_rounds 1 ?_
  rw [rounds_succ]; go_wp2
  go_ret2
  exact ⟨rfl, rfl⟩

set_option maxRecDepth 100000 in
set_option maxHeartbeats 1000000 in
theorem chains_walk (sv : Value) (I : List (Int × Int)) (hI : I.length ≤ 40) (w : World) (hG : w.cell? ⟨0, 0, none⟩ = some errType) (hG0 : 0 < w.heap.size)
    (hc : Calls Tryd.prog 6 #[sv] w fun e w' => ∃ out, e = .returned (.tuple #[chn none I.reverse, out]) ∧ w'.ownsRow w.heap.size 34 2 out I.length (flat I) ∧ Below w.heap.size w w') :
    Calls Tryd.prog 4 #[sv] w fun e w' => e = .returned (.bool true) ∧ Below w.heap.size w w' := by
  obtain ⟨i0, hi, hz0, hz1, hz2⟩ := info_parts Tryd.info23
  have HC : Hid _ := hc
  have HCh : Hid _ := fun w => chain_any none I.reverse (by simpa using (by omega : I.length < 60)) w
  have hgo : (goes chainStep none [] I.reverse 1).1 = I.reverse.map (·.1) := by rw [goes_chain]; simp
  rw [hgo] at HCh
  clear hc hgo
  generalize chn none I.reverse = E at HC HCh
  go_enter Tryd.func4, Tryd.ntmps4
  go_wp2_with (first
    | (go_at_call 6; refine Calls.mono HC.out ?_; rintro e w1 ⟨out, rfl, hown, hb⟩; obtain ⟨oa, oc, rfl⟩ := owns_form hown;
       have HO : Hid (w1.ownsRow w.heap.size 34 2 (.slice oa I.length oc) I.length (flat I)) := hown; have HB : Hid (Below w.heap.size w w1) := hb; clear hown hb HC)
    | fail)
  have hw1 := HB.out.size
  go_loopw [5, 6] (fun want i wr => ∃ j : Nat, j ≤ I.length ∧ i = .int .i64 ((j : Int) - 1) ∧ wr.ownsRow w1.heap.size 23 1 want (downs I j).length ((downs I j).map (Value.int .i64)) ∧ Below w1.heap.size w1 wr) (fun _ i _ => (intOf i + 1).toNat)
  case atStart => exact ⟨I.length, Nat.le_refl _, rfl, by rw [downs_end]; exact World.ownsRow_nil _ _ _ _, Below.refl _ _⟩
  case round =>
    obtain ⟨j, hj, rfl, hown, hbel⟩ := hrel
    obtain ⟨wa, wc, rfl⟩ := owns_form hown
    have HO2 : Hid (wr.ownsRow w1.heap.size 23 1 (.slice wa (downs I j).length wc) (downs I j).length ((downs I j).map (Value.int .i64))) := hown
    have HB2 : Hid (Below w1.heap.size w1 wr) := hbel
    clear hown hbel
    cases j with
    | zero =>
      have HW : Hid (Below w.heap.size w wr) := HB.out.trans (HB2.out.mono hw1)
      go_wp2_with (first
        | (go_at_call 7; refine (awake_any _ ((HW.out.cell (p := ⟨0, 0, none⟩) hG0).trans hG) (by have := HW.out.size; omega)).mono ?_; rintro e w2 ⟨rfl, hb⟩; have HB3 : Hid (Below _ wr w2) := hb; clear hb)
        | (go_at_call 15; refine Calls.mono (HCh.out _) ?_; rintro e w3 ⟨cv, rfl, hown, ⟨ca, cn, cc, rfl⟩, hb⟩; have HO3 : Hid _ := hown; have HB4 : Hid (Below _ w2 w3) := hb; clear hown hb)
        | (go_at_call 14; refine Calls.mono (errs_owns HO3.out (by have h := owns_grow (owns_grow HO2.out HB3.out) HB4.out; rw [downs_all] at h; exact h) (by simp; omega)) ?_; rintro e w4 ⟨rfl, nq, rfl⟩)
        | fail)
      go_ret
      exact ⟨rfl, below_drewN ((HW.out.trans (HB3.out.mono (by have := HW.out.size; omega))).trans (HB4.out.mono (by have := HW.out.size; have := HB3.out.size; omega))) _⟩
    | succ j =>
      have hjl : j < I.length := by omega
      have e1 : ((j + 1 : Nat) : Int) - 1 = (j : Int) := by omega
      rw [e1]
      rcases owns_cells HO.out with ⟨_, h⟩ | ⟨g, gc, hg, hg1, hg2, hgc⟩
      · omega
      simp only [Value.slice.injEq] at hg
      obtain ⟨rfl, _, rfl⟩ := hg
      have hx : wr.cell? ⟨g, j * 2, none⟩ = some (.int .i64 (I[j]'hjl).1) := (HB2.out.cell (p := ⟨g, j * 2, none⟩) hg2).trans (hgc _ _ (flat_code I j hjl))
      have hlen : (downs I (j + 1)).length ≤ 40 := by rw [downs_len]; omega
      have hjl' : (j : Int) < (I.length : Int) := by omega
      have HD := downs_step I j hjl
      have HD' : Hid _ := HD
      generalize (I[j]'hjl).1 = cj at hx HD' HD
      clear hgc HD e1
      go_wp2_with (first
        | (at_builtin; refine wpList_append_own _ rfl _ _ 36 rfl w1.heap.size 23 i0 (.int .i64 0) 1 8 Tryd.underlying36 hi hz0 hz1 hz2 rfl (by decide) _ (downs I (j + 1)).length ((downs I (j + 1)).map (Value.int .i64)) rfl ?c0 ⟨wr.heap.size, 0, none⟩ 1 1 [.int .i64 cj] rfl rfl ?c1 ?c2 ?c3 ?c4 ?c5 ?_)
        | fail)
      case c0 => exact World.ownsRow.alloc HO2.out _
      case c1 =>
        intro i u hu
        match i, hu with
        | 0, hu => simp at hu; subst hu; exact cell_new rfl rfl
      case c2 => intro u hu; simp at hu; subst hu; rfl
      case c3 => unfold maxLen; omega
      case c4 => omega
      case c5 => have := HB2.out.size; simp; omega
      intro v' w2 hown' hgrow _
      have hB3 : Below w1.heap.size w1 w2 := (HB2.out.alloc HB2.out.size _).grown hgrow (by have := HB2.out.size; simp; omega) (fun g hg => (World.ownsRow.lt HO2.out g hg).1)
      have HO3 : Hid _ := hown'
      have HB3 : Hid _ := hB3
      clear hown' hgrow hB3
      go_wp2
      go_roundw
      case rel => exact ⟨j, by omega, rfl, by rw [HD'.out, List.map_append, List.length_append]; exact HO3.out, HB3.out⟩
      case measure => simp [intOf]
end Go.Proofs.YtghdiflnkbkgaaaDoor
