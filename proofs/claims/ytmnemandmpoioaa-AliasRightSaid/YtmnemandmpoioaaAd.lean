/- Package alias: wrong, slices.ContainsFunc, slices.Clone; own, remainder. -/
import Derived.Deep.QuietTactic
import Derived.BigQuiet
import Derived.Laws.MakeOwn
import Derived.Test.YtmnemandmpoioaaAc
namespace Go.Proofs.Ytmnemandmpoioaa
open Go.RowKit Fl

/-- Numbers that came in, or that the call has laid. -/
def Nms (w : World) (ao : Option Addr) (n : Nat) (f : Nat → Int) : Prop := n = 0 ∨ ∃ g off, ao = some ⟨g, off, none⟩ ∧ Rdo w g off n f
theorem Nms.keep {w w' : World} {ao : Option Addr} {n : Nat} {f : Nat → Int} (h : Nms w ao n f) (hb : Below w.heap.size w w') : Nms w' ao n f :=
  h.elim .inl fun ⟨g, off, e, hi⟩ => .inr ⟨g, off, e, hi.keep hb⟩
/-- A weight that may not be. -/
def badW (x : Int) : Bool := decide (x < 0) || decide (1048576 < x)

set_option maxRecDepth 100000 in
set_option maxHeartbeats 1000000 in
theorem wrong_any (x : Int) (w : World) : Calls Try.prog 20 #[.int .i64 x] w fun e w' => e = .returned (.bool (badW x)) ∧ w' = w := by
  unfold badW
  by_cases h0 : x < 0
  · have hd : (x < 0) = True := eq_true h0
    rw [decide_eq_true h0]
    go_enter Try.func20, Try.ntmps20
    go_wp2_with fail
    go_ret
    exact ⟨rfl, rfl⟩
  · have hd : (x < 0) = False := eq_false h0
    rw [decide_eq_false h0]
    by_cases h1 : 1048576 < x
    · have hd2 : (1048576 < x) = True := eq_true h1
      rw [decide_eq_true h1]
      go_enter Try.func20, Try.ntmps20
      go_wp2_with fail
      go_ret
      exact ⟨rfl, rfl⟩
    · have hd2 : (1048576 < x) = False := eq_false h1
      rw [decide_eq_false h1]
      go_enter Try.func20, Try.ntmps20
      go_wp2_with fail
      go_ret
      exact ⟨rfl, rfl⟩

/-- Where the first one is that may not be; -1: there is none. -/
def firstBad (f : Nat → Int) : Nat → Nat → Int
  | _, 0 => -1
  | j, k + 1 => if badW (f j) = true then j else firstBad f (j + 1) k
theorem firstBad_none {f : Nat → Int} : ∀ {k j : Nat}, (∀ i, j ≤ i → i < j + k → badW (f i) = false) → firstBad f j k = -1
  | 0, _, _ => rfl
  | k + 1, j, h => by
    rw [firstBad, h j (by omega) (by omega)]
    exact firstBad_none fun i h1 h2 => h i (by omega) (by omega)
theorem firstBad_some {f : Nat → Int} : ∀ {k j : Nat}, (∃ i, j ≤ i ∧ i < j + k ∧ badW (f i) = true) → 0 ≤ firstBad f j k
  | 0, _, ⟨i, h1, h2, _⟩ => by omega
  | k + 1, j, ⟨i, h1, h2, h3⟩ => by
    rw [firstBad]
    split
    · omega
    · rename_i hb
      refine firstBad_some ⟨i, ?_, by omega, h3⟩
      rcases Nat.lt_or_eq_of_le h1 with h | h
      · exact h
      · subst h; exact absurd h3 hb

set_option maxRecDepth 100000 in
set_option maxHeartbeats 1000000 in
theorem index_any (n c : Nat) (ao : Option Addr) (f : Nat → Int) (w : World) (h : Nms w ao n f) (hn : n ≤ 1000000) : Calls Try.prog 28 #[.slice ao n c, .func (.func 20) #[] #[]] w fun e w' => e = .returned (.int .i64 (firstBad f 0 n)) ∧ w' = w := by
  have HF : Hid _ := h
  have HW : Hid _ := fun x w => wrong_any x w
  have HN : Aside _ := hn
  clear h hn
  go_enter Try.func28, Try.ntmps28
  go_wp2_with fail
  go_loopg [8] n (fun k i wr => ∃ j : Nat, k + j = n ∧ i = .int .i64 (j : Int) ∧ firstBad f j k = firstBad f 0 n ∧ wr = w)
  case atStart => exact ⟨0, by omega, rfl, rfl, rfl⟩
  case round =>
    obtain ⟨g0, hg0⟩ : ∃ g0, g0 = gk := ⟨_, rfl⟩
    subst hg0
    obtain ⟨j, hk, rfl, hF, hwr⟩ := hrel
    obtain rfl := hwr.symm
    have HK : Aside _ := hk
    have HB : Aside _ := hF
    have hn := HN.out
    clear hk hF hwr
    cases g0 with
    | zero =>
      have hjn : j = n := by have := HK.out; omega
      subst hjn
      have HB2 : Aside (firstBad f 0 j = -1) := HB.out.symm
      have hd : ((j : Int) < (j : Int)) = False := eq_false (by omega)
      go_wp2_with fail
      go_ret
      exact ⟨congrArg (fun z => Ending.returned (Value.int .i64 z)) HB2.out.symm, rfl⟩
    | succ k =>
      have hj : j < n := by have := HK.out; omega
      have hd : ((j : Int) < (n : Int)) = True := eq_true (by omega)
      rcases HF.out with h | ⟨g, off, rfl, hI⟩
      · omega
      have hc := hI.cell hj
      clear hI
      cases hb : badW (f j)
      · have HB2 : Aside (firstBad f (j + 1) k = firstBad f 0 n) := by
          have := HB.out
          rw [firstBad, hb] at this
          exact this
        have HWj : Hid _ := HW.out (f j)
        rw [hb] at HWj
        generalize f j = x at *
        clear HB hb
        go_wp2_with fail
        refine Calls.mono (HWj.out _) ?_
        rintro e w' ⟨rfl, hw⟩
        obtain rfl := hw.symm
        clear hw
        go_wp2_with fail
        go_roundg k
        case measure => omega
        case rel => exact ⟨j + 1, by have := HK.out; omega, by go_num, HB2.out, rfl⟩
      · have HB2 : Aside ((j : Int) = firstBad f 0 n) := by
          have := HB.out
          rw [firstBad, hb] at this
          exact this
        have HWj : Hid _ := HW.out (f j)
        rw [hb] at HWj
        generalize f j = x at *
        clear HB hb
        go_wp2_with fail
        refine Calls.mono (HWj.out _) ?_
        rintro e w' ⟨rfl, hw⟩
        obtain rfl := hw.symm
        clear hw
        go_wp2_with fail
        go_ret
        exact ⟨congrArg (fun z => Ending.returned (Value.int .i64 z)) HB2.out, rfl⟩

set_option maxRecDepth 100000 in
set_option maxHeartbeats 1000000 in
theorem contains_any (n c : Nat) (ao : Option Addr) (f : Nat → Int) (w : World) (h : Nms w ao n f) (hn : n ≤ 1000000) (b : Bool) (hb : b = decide (0 ≤ firstBad f 0 n)) : Calls Try.prog 19 #[.slice ao n c, .func (.func 20) #[] #[]] w fun e w' => e = .returned (.bool b) ∧ w' = w := by
  have HI : Hid _ := index_any n c ao f w h hn
  clear h hn
  generalize firstBad f 0 n = x at *
  by_cases h0 : 0 ≤ x
  · have hd : (0 ≤ x) = True := eq_true h0
    rw [decide_eq_true h0] at hb
    subst hb
    go_enter Try.func19, Try.ntmps19
    go_wp2_with fail
    refine Calls.mono HI.out ?_
    rintro e w' ⟨rfl, hw⟩
    obtain rfl := hw.symm
    clear hw
    go_wp2_with fail
    go_ret
    exact ⟨rfl, rfl⟩
  · have hd : (0 ≤ x) = False := eq_false h0
    rw [decide_eq_false h0] at hb
    subst hb
    go_enter Try.func19, Try.ntmps19
    go_wp2_with fail
    refine Calls.mono HI.out ?_
    rintro e w' ⟨rfl, hw⟩
    obtain rfl := hw.symm
    clear hw
    go_wp2_with fail
    go_ret
    exact ⟨rfl, rfl⟩

theorem eql_nil (ao : Option Addr) (n c : Nat) (w : World) : (binOp .eql 22 (.slice ao n c) (.slice none 0 0)).run Try.prog w = .ok (.bool ao.isNone) w := Lib.run_eql_slice_nil w _ _ ao n c 0 0 under_ints

theorem grown_keep {w w' : World} {row : Option Nat} (h : w.grownBy w' row) {b : Nat} {vs : Array Value} {t : TypeId} (hB : Lp.Bk w b vs t) (hn : row ≠ some b) : Lp.Bk w' b vs t := (h.block b hB.lt (fun e => hn e.symm)).trans hB
/-- The numbers as values. -/
def vals (n : Nat) (f : Nat → Int) : List Value := (List.range n).map fun i => .int .i64 (f i)
theorem vals_len (n : Nat) (f : Nat → Int) : (vals n f).length = n := by simp [vals]
theorem vals_at {n : Nat} {f : Nat → Int} {i : Nat} (h : i < n) : (vals n f)[i]? = some (.int .i64 (f i)) := by
  unfold vals; rw [List.getElem?_map, List.getElem?_range h]; rfl
theorem vals_one (n : Nat) (f : Nat → Int) : ∀ u ∈ vals n f, u.oneCell' = true := by
  intro u hu
  obtain ⟨x, _, rfl⟩ := List.mem_map.1 hu
  rfl
theorem addr_off (b off j : Nat) : (⟨b, off, none⟩ : Addr).add j = ⟨b, off + j, none⟩ := by
  simp only [Addr.add]
  split
  · rename_i hz; rw [hz]; rfl
  · rfl
theorem Rdo.news {w : World} {g off n : Nat} {f : Nat → Int} (h : Rdo w g off n f) : ∀ j u, (vals n f)[j]? = some u → w.cell? ((⟨g, off, none⟩ : Addr).add j) = some u := by
  intro j u hu
  have hj : j < n := by
    rcases Nat.lt_or_ge j n with h | h
    · exact h
    · rw [List.getElem?_eq_none (by rw [vals_len]; exact h)] at hu; cases hu
  rw [vals_at hj] at hu
  rw [addr_off, h.cell hj]
  exact hu

set_option maxRecDepth 100000 in
set_option maxHeartbeats 1000000 in
theorem clone_any (n c g off : Nat) (f : Nat → Int) (w : World) (h : Rdo w g off n f) (h0 : 0 < n) (hn : n ≤ 1000000) : Calls Try.prog 21 #[.slice (some ⟨g, off, none⟩) n c] w fun e w' => ∃ g' c', e = .returned (.slice (some ⟨g', 0, none⟩) n c') ∧ w.heap.size ≤ g' ∧ Ir w' g' n f ∧ Below w.heap.size w w' := by
  obtain ⟨i0, hi, hz0, hz1, hz2⟩ := info_int
  have hq := fun w => eql_nil (some ⟨g, off, none⟩) n c w
  have HI := hid h
  have hlt := h.lt
  clear h
  go_enter Try.func21, Try.ntmps21
  go_wp2_with (first
    | (at_builtin; refine wpList_append_own _ rfl _ _ 22 rfl w.heap.size 3 i0 (.int .i64 0) 1 8 under_ints hi hz0 hz1 hz2 rfl (by decide) _ 0 [] rfl (World.ownsRow_lit w #[] 0 (Nat.le_refl _) (by decide) rfl) ⟨g, off, none⟩ n c (vals n f) rfl (by rw [vals_len]; omega) (HI.out.alo _).news (vals_one n f) (max_small (by omega)) (by omega) (by simp) ?_)
    | go_in)
  intro v' w' hown hg _
  have hb : Below w.heap.size w w' := by
    refine ⟨hg.os, hg.tape, hg.output, ?_, fun k hk => ?_⟩
    · have := hg.size
      simp at this
      omega
    · rw [hg.block k (by simp; omega) (by simp [Value.ownBlock]; omega)]
      exact heap_alloc_old w _ hk
  clear hg
  have hown2 := owns_base (b' := 0) hown (Nat.zero_le _)
  obtain ⟨ao, cap, rfl, -⟩ := owns_slice hown
  obtain ⟨g', rfl, hI⟩ := owns_ir hown2 h0
  have hge := (hown.lt g' rfl).1
  have HI2 : Aside _ := hI
  clear hown hown2 hI
  go_wp2_with fail
  go_ret
  exact ⟨g', cap, by simp, hge, HI2.out, hb⟩
end Go.Proofs.Ytmnemandmpoioaa
