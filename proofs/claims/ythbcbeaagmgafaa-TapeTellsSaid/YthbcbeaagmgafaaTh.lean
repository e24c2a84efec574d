/- Package tape: a tape in memory; Len, Read, At. -/
import Derived.Test.YthbcbeaagmgafaaRows
import Derived.Test.YthbcbeaagmgafaaTg
namespace Go.Proofs.Ythbcbeaagmgafaa
open Go.RowKit Fl

/-- The tape at block T: these draws, so many asked for. -/
def Tp (w : World) (T : Nat) (xs : List Nat) (r : Int) : Prop := ∃ v, Lp.Bk w T #[v, .int .i64 r] 48 ∧ Row T w v xs
theorem Tp.keep {w w' : World} {T : Nat} {xs : List Nat} {r : Int} (h : Tp w T xs r) (hb : Below w.heap.size w w') : Tp w' T xs r := by
  obtain ⟨v, hB, hR⟩ := h
  exact ⟨v, hB.keep hb, hR.keep (hb.mono (by have := hB.lt; omega))⟩
theorem Tp.lt {w : World} {T : Nat} {xs : List Nat} {r : Int} (h : Tp w T xs r) : T < w.heap.size := by
  obtain ⟨v, hB, hR⟩ := h
  exact hB.lt
/-- The place behind. -/
def bhd (i : Int) : Int := if i = 9223372036854775807 then i else i + 1
/-- How many were asked for behind a question. -/
def readF (r i : Int) : Int := if i < 0 then r else max r (bhd i)
theorem ret_same {f : FuncId} {args : Array Value} {v : Value} {w : World} (h : Calls Try.prog f args w fun e w' => e = .returned v ∧ w' = w) : Ret Try.prog f args w (fun u => u = v) :=
  Calls.mono h fun _ _ ⟨he, hw⟩ => ⟨v, he, rfl, by rw [hw]; exact Below.refl _ _⟩

set_option maxRecDepth 100000 in
set_option maxHeartbeats 1000000 in
theorem len_any (T : Nat) (xs : List Nat) (r : Int) (w : World) (h : Tp w T xs r) : Calls Try.prog 13 #[.pointer (some ⟨T, 0, none⟩)] w fun e w' => e = .returned (.int .i64 xs.length) ∧ w' = w := by
  obtain ⟨v, hB, ao, cap, rfl, hl, -⟩ := h
  have kT := hB.cell
  generalize xs.length = n at *
  go_enter Try.func13, Try.ntmps13
  go_wp2_with fail
  go_ret
  exact ⟨rfl, rfl⟩

set_option maxRecDepth 100000 in
set_option maxHeartbeats 1000000 in
theorem len_nil (w : World) : Calls Try.prog 13 #[.pointer none] w fun e w' => e = .returned (.int .i64 0) ∧ w' = w := by
  go_enter Try.func13, Try.ntmps13
  go_wp2_with fail
  go_ret
  exact ⟨rfl, rfl⟩

set_option maxRecDepth 100000 in
set_option maxHeartbeats 1000000 in
theorem read_any (T : Nat) (xs : List Nat) (r : Int) (w : World) (h : Tp w T xs r) : Calls Try.prog 12 #[.pointer (some ⟨T, 0, none⟩)] w fun e w' => e = .returned (.int .i64 r) ∧ w' = w := by
  obtain ⟨v, hB, hR⟩ := h
  have kT := hB.cell
  go_enter Try.func12, Try.ntmps12
  go_wp2_with fail
  go_ret
  exact ⟨rfl, rfl⟩

set_option maxRecDepth 100000 in
set_option maxHeartbeats 1000000 in
theorem read_nil (w : World) : Calls Try.prog 12 #[.pointer none] w fun e w' => e = .returned (.int .i64 0) ∧ w' = w := by
  go_enter Try.func12, Try.ntmps12
  go_wp2_with fail
  go_ret
  exact ⟨rfl, rfl⟩

set_option maxRecDepth 100000 in
set_option maxHeartbeats 1000000 in
theorem at_nil (i : Int) (w : World) : Calls Try.prog 8 #[.pointer none, .int .i64 i] w fun e w' => e = .returned (.float .f64 0) ∧ w' = w := by
  go_enter Try.func8, Try.ntmps8
  go_wp2_with fail
  go_ret
  exact ⟨rfl, rfl⟩

theorem Row.lift {T : Nat} {w w' : World} {v : Value} {xs : List Nat} (h : Row T w v xs) (hb : Below T w w') : Row T w' v xs := h.keep hb

set_option maxRecDepth 100000 in
set_option maxHeartbeats 1000000 in
theorem at_any (T : Nat) (xs : List Nat) (r i : Int) (w : World) (h : Tp w T xs r) (hi : i ≤ 9223372036854775807) : Calls Try.prog 8 #[.pointer (some ⟨T, 0, none⟩), .int .i64 i] w fun e w' => e = .returned (.float .f64 (drawF xs i)) ∧ Below T w w' ∧ Tp w' T xs (readF r i) := by
  obtain ⟨v, BT, hR⟩ := h
  have HR : Hid _ := hR
  obtain ⟨ao, cap, rfl, hl, -⟩ := hR
  have HD : Hid _ := fun (c : Nat) (w : World) => counter1_any xs i T c (.slice ao xs.length cap) w
  have hT := BT.lt
  unfold readF
  generalize drawF xs i = d at *
  have kT := BT.cell
  by_cases h0 : i < 0
  · rw [if_pos h0]
    have HT : Aside _ := BT
    clear BT
    go_enter Try.func8, Try.ntmps8
    go_wp2_with fail
    refine Calls.mono (counter_any ao xs.length cap _) ?_
    rintro e w1 ⟨rfl, hw⟩
    obtain rfl := hw
    go_wp2_with fail
    have hc := (Lp.Bk.al w #[.slice ao xs.length cap] 22).cell 0

    have hb : Below T w (w.alloc (.cells #[.slice ao xs.length cap] 22)) := (Below.refl _ _).alloc (by omega) _
    refine Calls.mono (HD.out _ _ (Row.keep (v := .slice ao xs.length cap) HR.out hb) hc) ?_
    rintro e w1 ⟨rfl, hw⟩
    obtain rfl := hw
    clear hc
    go_wp2_with fail
    go_ret
    exact ⟨rfl, hb, .slice ao xs.length cap, Lp.Bk.alo HT.out _, Row.keep (v := .slice ao xs.length cap) HR.out hb⟩
  · rw [if_neg h0]
    have HB : Hid _ := fun w => ret_same (behind_any i hi (by omega) w)
    have hbh : (if i = 9223372036854775807 then i else i + 1) = bhd i := rfl
    rw [hbh] at HB
    have hb0 : 0 ≤ bhd i ∧ bhd i ≤ 9223372036854775807 := by unfold bhd; split <;> omega
    generalize bhd i = p at *
    clear hbh
    have HT : Aside _ := hb0
    by_cases hrp : p ≤ r
    · rw [Int.max_eq_left (by omega)]
      go_enter Try.func8, Try.ntmps8
      go_wp2_with fail
      apply Lp.wp_region_loose _ _ 8 (by kernel_rfl) (by kernel_rfl) (by kernel_rfl) (Below.refl _ _)
      apply Lp.facts
      · intro w1 hw
        exact (BT.cl hw).cell
      intro HF
      iterate 6 (
        apply Lp.one ?_ rfl
        · intro w hw
          have k0 := HF.out _ hw
          go_simp
          exact rfl
        intro K hK
        go_simp
        refine hK.out _ ?_
        clear hK K)
      apply Lp.any rfl
      · intro w hw
        go_simp
        exact Lp.ret (HB.out _)
      intro K hK
      rintro v rfl
      go_simp
      refine hK.out _ ?_
      clear hK K
      iterate 1 (
        apply Lp.one ?_ rfl
        · intro w hw
          have k0 := HF.out _ hw
          go_simp
          exact rfl
        intro K hK
        go_simp
        refine hK.out _ ?_
        clear hK K)
      rotate_left
      exact []
      intro v1 hm
      replace BT := BT.keep hm
      clear kT
      have kT := BT.cell
      have zT := BT.frz
      go_wp2_with fail
      clear HT kT zT
      have HT : Aside _ := BT.set 1 (.int .i64 r)
      clear BT
      have hv : T < (v1.setCell ⟨T, 1, none⟩ (.int .i64 r)).heap.size := by have := hm.size; simp; omega
      refine Calls.mono (counter_any ao xs.length cap _) ?_
      rintro e w1 ⟨rfl, hw⟩
      obtain rfl := hw
      go_wp2_with fail
      have hc := (Lp.Bk.al (v1.setCell ⟨T, 1, none⟩ (.int .i64 r)) #[.slice ao xs.length cap] 22).cell 0
      rw [show (v1.setCell ⟨T, 1, none⟩ (.int .i64 r)).heap.size = v1.heap.size by simp] at hc
      have hb : Below T w ((v1.setCell ⟨T, 1, none⟩ (.int .i64 r)).alloc (.cells #[.slice ao xs.length cap] 22)) := (((Below.mono hm (Nat.le_of_lt hT)).setCell (Nat.le_refl _) _).alloc (Nat.le_of_lt hv) _)
      refine Calls.mono (HD.out _ _ (Row.keep (v := .slice ao xs.length cap) HR.out hb) hc) ?_
      rintro e w1 ⟨rfl, hw⟩
      obtain rfl := hw
      clear hc
      go_wp2_with fail
      go_ret
      exact ⟨rfl, hb, .slice ao xs.length cap, Lp.Bk.alo HT.out _, Row.keep (v := .slice ao xs.length cap) HR.out hb⟩
    · rw [Int.max_eq_right (by omega)]
      go_enter Try.func8, Try.ntmps8
      go_wp2_with fail
      apply Lp.wp_region_loose _ _ 8 (by kernel_rfl) (by kernel_rfl) (by kernel_rfl) (Below.refl _ _)
      apply Lp.facts
      · intro w1 hw
        exact (BT.cl hw).cell
      intro HF
      iterate 6 (
        apply Lp.one ?_ rfl
        · intro w hw
          have k0 := HF.out _ hw
          go_simp
          exact rfl
        intro K hK
        go_simp
        refine hK.out _ ?_
        clear hK K)
      apply Lp.any rfl
      · intro w hw
        go_simp
        exact Lp.ret (HB.out _)
      intro K hK
      rintro v rfl
      go_simp
      refine hK.out _ ?_
      clear hK K
      iterate 1 (
        apply Lp.one ?_ rfl
        · intro w hw
          have k0 := HF.out _ hw
          go_simp
          exact rfl
        intro K hK
        go_simp
        refine hK.out _ ?_
        clear hK K)
      rotate_left
      exact []
      intro v1 hm
      replace BT := BT.keep hm
      clear kT
      have kT := BT.cell
      have zT := BT.frz
      go_wp2_with fail
      clear HT kT zT
      have HT : Aside _ := BT.set 1 (.int .i64 p)
      clear BT
      have hv : T < (v1.setCell ⟨T, 1, none⟩ (.int .i64 p)).heap.size := by have := hm.size; simp; omega
      refine Calls.mono (counter_any ao xs.length cap _) ?_
      rintro e w1 ⟨rfl, hw⟩
      obtain rfl := hw
      go_wp2_with fail
      have hc := (Lp.Bk.al (v1.setCell ⟨T, 1, none⟩ (.int .i64 p)) #[.slice ao xs.length cap] 22).cell 0
      rw [show (v1.setCell ⟨T, 1, none⟩ (.int .i64 p)).heap.size = v1.heap.size by simp] at hc
      have hb : Below T w ((v1.setCell ⟨T, 1, none⟩ (.int .i64 p)).alloc (.cells #[.slice ao xs.length cap] 22)) := (((Below.mono hm (Nat.le_of_lt hT)).setCell (Nat.le_refl _) _).alloc (Nat.le_of_lt hv) _)
      refine Calls.mono (HD.out _ _ (Row.keep (v := .slice ao xs.length cap) HR.out hb) hc) ?_
      rintro e w1 ⟨rfl, hw⟩
      obtain rfl := hw
      clear hc
      go_wp2_with fail
      go_ret
      exact ⟨rfl, hb, .slice ao xs.length cap, Lp.Bk.alo HT.out _, Row.keep (v := .slice ao xs.length cap) HR.out hb⟩
end Go.Proofs.Ythbcbeaagmgafaa
