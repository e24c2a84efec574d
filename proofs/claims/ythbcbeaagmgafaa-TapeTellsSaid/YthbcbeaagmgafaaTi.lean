/- Package tape: slices.Clone of draws; Over. -/
import Derived.Laws.AppendOwn
import Derived.Laws.OwnMore
import Derived.Lib.SliceRun
import Derived.Test.YthbcbeaagmgafaaRows
import Derived.Test.YthbcbeaagmgafaaTh
namespace Go.Proofs.Ythbcbeaagmgafaa
open Go.RowKit Fl

theorem info_f64 : ∃ i, Try.prog.info? 26 = some i ∧ i.zero = some (.float .f64 0) ∧ i.size = 1 ∧ i.bytes = 8 := by
  have h : (Try.prog.info? 26).map (fun i => (i.zero, i.size, i.bytes)) = some (some (.float .f64 0), 1, 8) := by kernel_rfl
  obtain ⟨i, hi, hz⟩ := Option.map_eq_some_iff.1 h
  simp only [Prod.mk.injEq] at hz
  exact ⟨i, hi, hz.1, hz.2.1, hz.2.2⟩
theorem under_fs : Try.prog.underlying 22 = some (.slice 26) := by kernel_rfl

theorem eql_nil (ao : Option Addr) (n c : Nat) (w : World) : (binOp .eql 22 (.slice ao n c) (.slice none 0 0)).run Try.prog w = .ok (.bool ao.isNone) w := by
  exact Lib.run_eql_slice_nil w _ _ ao n c 0 0 under_fs

/-- What a row owned holds. -/
theorem row_of_own {w : World} {base m : Nat} {v : Value} {xs : List Nat} (h : w.ownsRow base 26 1 v m (xs.map fun x => .float .f64 x)) (hl : xs.length ≤ 100) : Row w.heap.size w v xs := by
  obtain ⟨hlen, h⟩ := h
  simp only [List.length_map, Nat.mul_one] at hlen
  rcases h with ⟨rfl, rfl⟩ | ⟨g, cap, cur, rfl, hb, hg, hc, hm, hs, ht⟩
  · exact ⟨none, 0, by rw [hlen], hl, .inl (List.length_eq_zero_iff.1 hlen)⟩
  · refine ⟨_, cap, by rw [hlen], hl, .inr ⟨g, 0, rfl, (Array.getElem?_eq_some_iff.1 hg).1, fun k hk => ?_⟩⟩
    have h1 := (Lp.Bk.cell (show Lp.Bk w g cur 26 from hg)) (0 + k)
    rw [h1, Nat.zero_add]
    have h2 : (cur.toList.take (m * 1))[k]? = some (.float .f64 (xs.getD k 0)) := by
      rw [ht, List.getElem?_map, List.getD_eq_getElem?_getD, List.getElem?_eq_getElem hk]
      rfl
    rw [List.getElem?_take] at h2
    split at h2
    · simpa using h2
    · cases h2

set_option maxRecDepth 100000 in
set_option maxHeartbeats 1000000 in
theorem clone_any (xs : List Nat) (T : Nat) (v : Value) (w : World) (hr : Row T w v xs) (hT : T ≤ w.heap.size) : Calls Try.prog 21 #[v] w fun e w' => ∃ v', e = .returned v' ∧ Row w'.heap.size w' v' xs ∧ Below w.heap.size w w' := by
  obtain ⟨ao, cap, rfl, hl, hr⟩ := hr
  cases ao with
  | none =>
    have hx : xs = [] := by
      rcases hr with h | ⟨b, off, h, -⟩
      · exact h
      · cases h
    subst hx
    have hq := fun w => eql_nil none 0 cap w
    go_enter Try.func21, Try.ntmps21
    go_wp2_with fail
    go_ret
    exact ⟨_, rfl, ⟨none, 0, rfl, by simp, .inl rfl⟩, Below.refl _ _⟩
  | some a =>
    have hnews : ∀ j u, (xs.map fun x => Value.float .f64 x)[j]? = some u → w.cell? (a.add j) = some u := by
      intro j u hu
      rcases hr with h | ⟨b, off, h, hb, hc⟩
      · rw [h] at hu; simp at hu
      · simp only [Option.some.injEq] at h
        subst h
        rw [List.getElem?_map] at hu
        have hj : j < xs.length := by
          rcases Nat.lt_or_ge j xs.length with h | h
          · exact h
          · rw [List.getElem?_eq_none h] at hu; cases hu
        rw [List.getElem?_eq_getElem hj] at hu
        have h2 := hc j hj
        rw [List.getD_eq_getElem?_getD, List.getElem?_eq_getElem hj] at h2
        simp only [Option.map_some, Option.some.injEq] at hu
        subst hu
        have h3 : (⟨b, off, none⟩ : Addr).add j = ⟨b, off + j, none⟩ := by
          simp only [Addr.add]
          split
          · rename_i hz; rw [hz]; rfl
          · rfl
        rw [h3]
        exact h2
    have ha : xs ≠ [] → a.block < w.heap.size := by
      intro hx
      rcases hr with h | ⟨b, off, h, hb, hc⟩
      · exact absurd h hx
      · simp only [Option.some.injEq] at h
        subst h
        exact Nat.lt_of_lt_of_le hb hT
    clear hr
    obtain ⟨i0, hi, hz0, hz1, hz2⟩ := info_f64
    have HN : Hid _ := hnews
    clear hnews
    have hq := fun w => eql_nil (some a) xs.length cap w
    go_enter Try.func21, Try.ntmps21
    go_wp2_with (first
      | (at_builtin; refine wpList_append_own _ rfl _ _ 22 rfl w.heap.size 26 i0 (.float .f64 0) 1 8 under_fs hi hz0 hz1 hz2 rfl (by decide) _ 0 [] rfl (World.ownsRow_lit w #[] 0 (Nat.le_refl _) (by decide) rfl) a xs.length cap (xs.map fun x => .float .f64 x) rfl (by simp) ?c1 ?c2 ?c3 ?c4 ?c5 ?_)
      | go_in)
    case c1 =>
      intro j u hu
      have hx : xs ≠ [] := by
        intro h
        rw [h] at hu
        simp at hu
      have hb : Below w.heap.size w (w.alloc (.cells #[] 26)) := (Below.refl _ _).alloc (Nat.le_refl _) _
      have hab : (a.add j).block = a.block := by
        simp only [Addr.add]
        split <;> rfl
      exact (hb.cell (p := a.add j) (by rw [hab]; exact ha hx)).trans (HN.out j u hu)
    case c2 =>
      intro u hu
      obtain ⟨x, _, rfl⟩ := List.mem_map.1 hu
      rfl
    case c3 =>
      have : (100 : Nat) ≤ maxLen := by decide
      omega
    case c4 => omega
    case c5 => simp
    intro v' w' hown hg _
    have hb : Below w.heap.size w w' := by
      refine ⟨hg.os, hg.tape, hg.output, ?_, fun k hk => ?_⟩
      · have := hg.size
        simp at this
        omega
      · rw [hg.block k (by simp; omega) (by simp [Value.ownBlock]; omega)]
        exact heap_alloc_old w _ hk
    clear hg
    have HR : Aside _ := row_of_own hown hl
    clear hown
    go_wp2_with fail
    go_ret
    exact ⟨_, rfl, HR.out, hb⟩

set_option maxRecDepth 100000 in
set_option maxHeartbeats 1000000 in
theorem over_any (xs : List Nat) (T : Nat) (v : Value) (w : World) (hr : Row T w v xs) (hT : T ≤ w.heap.size) : Calls Try.prog 7 #[v] w fun e w' => ∃ B, e = .returned (.pointer (some ⟨B, 0, none⟩)) ∧ w.heap.size ≤ B ∧ Tp w' B xs 0 ∧ Below w.heap.size w w' := by
  have HC : Hid _ := clone_any xs T v w hr hT
  clear hr
  go_enter Try.func7, Try.ntmps7
  go_wp2_with fail
  refine Calls.mono HC.out ?_
  rintro e w1 ⟨v', rfl, hR, hb⟩
  have HR : Hid _ := hR
  obtain ⟨ao, cap, rfl, hl, -⟩ := hR
  go_wp2_with fail
  go_ret
  have hs := hb.size
  exact ⟨_, rfl, hs, ⟨_, Lp.Bk.al w1 #[.slice ao xs.length cap, .int .i64 0] 48, Row.keep (v := .slice ao xs.length cap) HR.out ((Below.refl _ _).alloc (Nat.le_refl _) _)⟩, hb.alloc hs _⟩
end Go.Proofs.Ythbcbeaagmgafaa
