/- Package alias: a table in memory; Len, Total, has, Weight, Column, numbers, meant, Pick. -/
import Derived.Deep.QuietTactic
import Derived.BigQuiet
import Derived.Test.YtmnemandmpoioaaAb
namespace Go.Proofs.Ytmnemandmpoioaa
open Go.RowKit Fl

/-- The table at block T: n options, their total, the weights, the columns. -/
def Tbl (w : World) (T n : Nat) (tot : Int) (ws TH : Nat → Int) (AL : Nat → Nat) : Prop :=
  ∃ gw cw gt ct ga ca, Lp.Bk w T #[.slice (some ⟨gw, 0, none⟩) n cw, .slice (some ⟨gt, 0, none⟩) n ct, .slice (some ⟨ga, 0, none⟩) n ca, .int .i64 tot] 51 ∧ Ir w gw n ws ∧ Ir w gt n TH ∧ Ir w ga n (fun i => (AL i : Int))
theorem Tbl.keep {w w' : World} {T n : Nat} {tot : Int} {ws TH : Nat → Int} {AL : Nat → Nat} (h : Tbl w T n tot ws TH AL) (hb : Below w.heap.size w w') : Tbl w' T n tot ws TH AL := by
  obtain ⟨gw, cw, gt, ct, ga, ca, hB, h1, h2, h3⟩ := h
  exact ⟨gw, cw, gt, ct, ga, ca, hB.keep hb, h1.keep hb, h2.keep hb, h3.keep hb⟩
theorem Tbl.lt {w : World} {T n : Nat} {tot : Int} {ws TH : Nat → Int} {AL : Nat → Nat} (h : Tbl w T n tot ws TH AL) : T < w.heap.size := by
  obtain ⟨gw, cw, gt, ct, ga, ca, hB, h1, h2, h3⟩ := h
  exact hB.lt
theorem ret_one {f : FuncId} {args : Array Value} {v : Value} {w : World} (h : Calls Try.prog f args w fun e w' => e = .returned v ∧ w' = w) : Ret Try.prog f args w (fun u => u = v) :=
  Calls.mono h fun _ _ ⟨he, hw⟩ => ⟨v, he, rfl, by rw [hw]; exact Below.refl _ _⟩

section
variable {T n : Nat} {tot : Int} {ws TH : Nat → Int} {AL : Nat → Nat}

set_option maxRecDepth 100000 in
set_option maxHeartbeats 1000000 in
theorem alen_any (w : World) {sw st sa : Value} {a : Option Addr} {c : Nat} (hw : sw = .slice a n c) (h : Lp.Bk w T #[sw, st, sa, .int .i64 tot] 51) : Calls Try.prog 10 #[.pointer (some ⟨T, 0, none⟩)] w fun e w' => e = .returned (.int .i64 n) ∧ w' = w := by
  subst hw
  have kT := h.cell
  go_enter Try.func10, Try.ntmps10
  go_wp2_with fail
  go_ret
  exact ⟨rfl, rfl⟩

set_option maxRecDepth 100000 in
set_option maxHeartbeats 1000000 in
theorem alen_nil (w : World) : Calls Try.prog 10 #[.pointer none] w fun e w' => e = .returned (.int .i64 0) ∧ w' = w := by
  go_enter Try.func10, Try.ntmps10
  go_wp2_with fail
  go_ret
  exact ⟨rfl, rfl⟩

set_option maxRecDepth 100000 in
set_option maxHeartbeats 1000000 in
theorem atotal_any (w : World) {sw st sa : Value} (h : Lp.Bk w T #[sw, st, sa, .int .i64 tot] 51) : Calls Try.prog 11 #[.pointer (some ⟨T, 0, none⟩)] w fun e w' => e = .returned (.int .i64 tot) ∧ w' = w := by
  have kT := h.cell
  go_enter Try.func11, Try.ntmps11
  go_wp2_with fail
  go_ret
  exact ⟨rfl, rfl⟩

set_option maxRecDepth 100000 in
set_option maxHeartbeats 1000000 in
theorem atotal_nil (w : World) : Calls Try.prog 11 #[.pointer none] w fun e w' => e = .returned (.int .i64 0) ∧ w' = w := by
  go_enter Try.func11, Try.ntmps11
  go_wp2_with fail
  go_ret
  exact ⟨rfl, rfl⟩

set_option maxRecDepth 100000 in
set_option maxHeartbeats 1000000 in
theorem ahas_of (p : Option Addr) (i : Int) (w : World) (hl : Calls Try.prog 10 #[.pointer p] w fun e w' => e = .returned (.int .i64 n) ∧ w' = w) : Calls Try.prog 25 #[.pointer p, .int .i64 i] w fun e w' => e = .returned (.bool (decide (0 ≤ i ∧ i < n))) ∧ w' = w := by
  have HL : Hid _ := hl
  clear hl
  by_cases h0 : 0 ≤ i
  · have hd : (0 ≤ i) = True := eq_true h0
    by_cases h1 : i < n
    · have hd2 : (i < (n : Int)) = True := eq_true h1
      rw [decide_eq_true ⟨h0, h1⟩]
      go_enter Try.func25, Try.ntmps25
      go_wp2_with fail
      refine Calls.mono HL.out ?_
      rintro e w' ⟨rfl, hw⟩
      obtain rfl := hw.symm
      clear hw
      go_wp2_with fail
      go_ret
      exact ⟨rfl, rfl⟩
    · have hd2 : (i < (n : Int)) = False := eq_false h1
      rw [decide_eq_false (fun h => h1 h.2)]
      go_enter Try.func25, Try.ntmps25
      go_wp2_with fail
      refine Calls.mono HL.out ?_
      rintro e w' ⟨rfl, hw⟩
      obtain rfl := hw.symm
      clear hw
      go_wp2_with fail
      go_ret
      exact ⟨rfl, rfl⟩
  · have hd : (0 ≤ i) = False := eq_false h0
    rw [decide_eq_false (fun h => h0 h.1)]
    go_enter Try.func25, Try.ntmps25
    go_wp2_with fail
    go_ret
    exact ⟨rfl, rfl⟩
theorem Tbl.len {w : World} (h : Tbl w T n tot ws TH AL) : Calls Try.prog 10 #[.pointer (some ⟨T, 0, none⟩)] w fun e w' => e = .returned (.int .i64 n) ∧ w' = w := by
  obtain ⟨gw, cw, gt, ct, ga, ca, hB, h1, h2, h3⟩ := h
  exact alen_any w rfl hB
theorem Tbl.total {w : World} (h : Tbl w T n tot ws TH AL) : Calls Try.prog 11 #[.pointer (some ⟨T, 0, none⟩)] w fun e w' => e = .returned (.int .i64 tot) ∧ w' = w := by
  obtain ⟨gw, cw, gt, ct, ga, ca, hB, h1, h2, h3⟩ := h
  exact atotal_any w hB

set_option maxRecDepth 100000 in
set_option maxHeartbeats 1000000 in
theorem weight_off (p : Option Addr) (i : Int) (w : World) (hh : Calls Try.prog 25 #[.pointer p, .int .i64 i] w fun e w' => e = .returned (.bool false) ∧ w' = w) : Calls Try.prog 13 #[.pointer p, .int .i64 i] w fun e w' => e = .returned (.int .i64 0) ∧ w' = w := by
  have HH : Hid _ := hh
  clear hh
  go_enter Try.func13, Try.ntmps13
  go_wp2_with fail
  refine Calls.mono HH.out ?_
  rintro e w' ⟨rfl, hw⟩
  obtain rfl := hw.symm
  clear hw
  go_wp2_with fail
  go_ret
  exact ⟨rfl, rfl⟩

set_option maxRecDepth 100000 in
set_option maxHeartbeats 1000000 in
theorem weight_on (i : Nat) (w : World) (h : Tbl w T n tot ws TH AL) (hi : i < n) : Calls Try.prog 13 #[.pointer (some ⟨T, 0, none⟩), .int .i64 i] w fun e w' => e = .returned (.int .i64 (ws i)) ∧ w' = w := by
  have HH : Hid _ := ahas_of (some ⟨T, 0, none⟩) i w h.len
  rw [decide_eq_true ⟨by omega, by omega⟩] at HH
  obtain ⟨gw, cw, gt, ct, ga, ca, hB, h1, h2, h3⟩ := h
  have kT := hB.cell
  have k1 := h1.at hi
  generalize ws i = x at *
  have hd : ((i : Int) < (n : Int)) = True := eq_true (by omega)
  go_enter Try.func13, Try.ntmps13
  go_wp2_with fail
  refine Calls.mono HH.out ?_
  rintro e w' ⟨rfl, hw⟩
  obtain rfl := hw.symm
  clear hw
  go_wp2_with fail
  go_ret
  exact ⟨rfl, rfl⟩

set_option maxRecDepth 100000 in
set_option maxHeartbeats 1000000 in
theorem column_off (p : Option Addr) (i : Int) (w : World) (hh : Calls Try.prog 25 #[.pointer p, .int .i64 i] w fun e w' => e = .returned (.bool false) ∧ w' = w) : Calls Try.prog 12 #[.pointer p, .int .i64 i] w fun e w' => e = .returned (.tuple #[.int .i64 0, .int .i64 (-1)]) ∧ w' = w := by
  have HH : Hid _ := hh
  clear hh
  go_enter Try.func12, Try.ntmps12
  go_wp2_with fail
  refine Calls.mono HH.out ?_
  rintro e w' ⟨rfl, hw⟩
  obtain rfl := hw.symm
  clear hw
  go_wp2_with fail
  go_ret2
  exact ⟨rfl, rfl⟩

set_option maxRecDepth 100000 in
set_option maxHeartbeats 1000000 in
theorem column_on (i : Nat) (w : World) (h : Tbl w T n tot ws TH AL) (hi : i < n) : Ret Try.prog 12 #[.pointer (some ⟨T, 0, none⟩), .int .i64 i] w (fun v => v = .tuple #[.int .i64 (TH i), .int .i64 (AL i)]) := by
  unfold Ret
  have HH : Hid _ := ahas_of (some ⟨T, 0, none⟩) i w h.len
  rw [decide_eq_true ⟨by omega, by omega⟩] at HH
  obtain ⟨gw, cw, gt, ct, ga, ca, hB, h1, h2, h3⟩ := h
  have kT := hB.cell
  have k2 := h2.at hi
  have k3 := h3.at hi
  generalize TH i = x at *
  generalize (AL i : Int) = y at *
  have hd : ((i : Int) < (n : Int)) = True := eq_true (by omega)
  go_enter Try.func12, Try.ntmps12
  go_wp2_with fail
  refine Calls.mono HH.out ?_
  rintro e w' ⟨rfl, hw⟩
  obtain rfl := hw.symm
  clear hw
  go_wp2_with fail
  go_quiet (fail)
  go_wp2_with fail
  go_ret2
  exact ⟨_, rfl, rfl, below_dr (Below.refl _ _) _⟩

set_option maxRecDepth 100000 in
set_option maxHeartbeats 1000000 in
theorem numbers_of (p : Option Addr) (w : World) (h0 : 0 ≤ (n : Int) * tot) (h1 : (n : Int) * tot ≤ 2199023255552) (hl : Calls Try.prog 10 #[.pointer p] w fun e w' => e = .returned (.int .i64 n) ∧ w' = w) (ht : Calls Try.prog 11 #[.pointer p] w fun e w' => e = .returned (.int .i64 tot) ∧ w' = w) : Calls Try.prog 27 #[.pointer p] w fun e w' => e = .returned (.int .i64 (n * tot)) ∧ w' = w := by
  have HL : Hid _ := hl
  have HT : Hid _ := ht
  clear hl ht
  go_enter Try.func27, Try.ntmps27
  go_wp2_with fail
  refine Calls.mono HL.out ?_
  rintro e w' ⟨rfl, hw⟩
  obtain rfl := hw.symm
  clear hw
  go_wp2_with fail
  refine Calls.mono HT.out ?_
  rintro e w' ⟨rfl, hw⟩
  obtain rfl := hw.symm
  clear hw
  go_wp2_with fail
  go_ret
  exact ⟨rfl, rfl⟩

/-- The option that a number means. -/
def meantF (n : Nat) (tot : Int) (TH : Nat → Int) (AL : Nat → Nat) (u : Int) : Int :=
  if 0 ≤ u ∧ u < n * tot then (if u % tot < TH (u / tot).toNat then u / tot else AL (u / tot).toNat) else -1

set_option maxRecDepth 100000 in
set_option maxHeartbeats 1000000 in
theorem meant_off (p : Option Addr) (u : Int) (w : World) (h0 : ¬ (0 ≤ u ∧ u < n * tot)) (hn : Calls Try.prog 27 #[.pointer p] w fun e w' => e = .returned (.int .i64 (n * tot)) ∧ w' = w) : Ret Try.prog 26 #[.pointer p, .int .i64 u] w (fun v => v = .int .i64 (-1)) := by
  refine ret_one ?_
  have HN : Hid _ := hn
  clear hn
  generalize (n : Int) * tot = N at *
  by_cases hu : u < 0
  · have hd : (u < 0) = True := eq_true hu
    go_enter Try.func26, Try.ntmps26
    go_wp2_with fail
    go_ret
    exact ⟨rfl, rfl⟩
  · have hd : (u < 0) = False := eq_false hu
    have hd2 : (N ≤ u) = True := eq_true (by omega)
    go_enter Try.func26, Try.ntmps26
    go_wp2_with fail
    refine Calls.mono HN.out ?_
    rintro e w' ⟨rfl, hw⟩
    obtain rfl := hw.symm
    clear hw
    go_wp2_with fail
    go_ret
    exact ⟨rfl, rfl⟩

set_option maxRecDepth 100000 in
set_option maxHeartbeats 1000000 in
theorem meant_on (u : Int) (w : World) (h : Tbl w T n tot ws TH AL) (h0 : 0 ≤ u) (hu : u < n * tot) (ht : 0 < tot) (hN : (n : Int) * tot ≤ 2199023255552) : Ret Try.prog 26 #[.pointer (some ⟨T, 0, none⟩), .int .i64 u] w (fun v => v = .int .i64 (meantF n tot TH AL u)) := by
  unfold Ret
  unfold meantF
  rw [if_pos ⟨h0, hu⟩]
  have HN : Hid _ := numbers_of (some ⟨T, 0, none⟩) w (by omega) hN h.len h.total
  have hq0 : 0 ≤ u / tot := Int.ediv_nonneg h0 (by omega)
  have hq1 : u / tot < n := Int.ediv_lt_of_lt_mul ht hu
  have hr0 : 0 ≤ u % tot := Int.emod_nonneg _ (by omega)
  have hr1 : u % tot < tot := Int.emod_lt_of_pos _ ht
  have htot : tot ≤ 2199023255552 := by
    have : 1 * tot ≤ n * tot := Int.mul_le_mul_of_nonneg_right (by omega) (by omega)
    omega
  obtain ⟨gw, cw, gt, ct, ga, ca, hB, h1, h2, h3⟩ := h
  obtain ⟨q, hq⟩ : ∃ q : Nat, u / tot = q := ⟨(u / tot).toNat, by omega⟩
  have hqn : q < n := by omega
  rw [hq, Int.toNat_natCast]
  have kT := hB.cell
  have k2 := h2.at hqn
  have k3 := h3.at hqn
  generalize (n : Int) * tot = N at *
  have hd : (u < 0) = False := eq_false (by omega)
  have hd2 : (N ≤ u) = False := eq_false (by omega)
  have hd3 : ((q : Int) < (n : Int)) = True := eq_true (by omega)
  clear hq0 hq1
  generalize hr : u % tot = r at *
  by_cases hl : r < TH q
  · rw [if_pos hl]
    generalize TH q = x at *
    have hd4 : (r < x) = True := eq_true hl
    go_enter Try.func26, Try.ntmps26
    go_wp2_with fail
    refine Calls.mono HN.out ?_
    rintro e w' ⟨rfl, hw⟩
    obtain rfl := hw.symm
    clear hw
    go_wp2_with fail
    go_quiet (fail)
    go_wp2_with fail
    go_ret
    exact ⟨_, rfl, congrArg (Value.int .i64) hq, below_dr (Below.refl _ _) _⟩
  · rw [if_neg hl]
    generalize TH q = x at *
    generalize (AL q : Int) = y at *
    have hd4 : (r < x) = False := eq_false hl
    go_enter Try.func26, Try.ntmps26
    go_wp2_with fail
    refine Calls.mono HN.out ?_
    rintro e w' ⟨rfl, hw⟩
    obtain rfl := hw.symm
    clear hw
    go_wp2_with fail
    go_quiet (fail)
    go_wp2_with fail
    go_ret
    exact ⟨_, rfl, rfl, below_dr (Below.refl _ _) _⟩

theorem meant_any (u : Int) (w : World) (h : Tbl w T n tot ws TH AL) (ht : 0 < tot) (hN : (n : Int) * tot ≤ 2199023255552) : Ret Try.prog 26 #[.pointer (some ⟨T, 0, none⟩), .int .i64 u] w (fun v => v = .int .i64 (meantF n tot TH AL u)) := by
  by_cases hu : 0 ≤ u ∧ u < n * tot
  · exact meant_on u w h hu.1 hu.2 ht hN
  · have e : meantF n tot TH AL u = -1 := if_neg hu
    rw [e]
    exact meant_off (some ⟨T, 0, none⟩) u w hu (numbers_of (some ⟨T, 0, none⟩) w (Int.mul_nonneg (by omega) (by omega)) hN h.len h.total)

set_option maxRecDepth 100000 in
set_option maxHeartbeats 1000000 in
theorem pick_of (p : Option Addr) (u x : Int) (w : World) (hm : Ret Try.prog 26 #[.pointer p, .int .i64 u] w (fun v => v = .int .i64 x)) : Ret Try.prog 17 #[.pointer p, .int .i64 u] w (fun v => v = .int .i64 x) := by
  unfold Ret
  have HM : Hid _ := hm
  clear hm
  go_enter Try.func17, Try.ntmps17
  go_wp2_with fail
  refine Calls.mono HM.out ?_
  rintro e w' ⟨v, rfl, rfl, hb⟩
  go_wp2_with fail
  go_ret
  exact ⟨_, rfl, rfl, hb⟩
theorem pick_any (u : Int) (w : World) (h : Tbl w T n tot ws TH AL) (ht : 0 < tot) (hN : (n : Int) * tot ≤ 2199023255552) : Ret Try.prog 17 #[.pointer (some ⟨T, 0, none⟩), .int .i64 u] w (fun v => v = .int .i64 (meantF n tot TH AL u)) :=
  pick_of _ u _ w (meant_any u w h ht hN)

theorem numbers_nil (w : World) : Calls Try.prog 27 #[.pointer none] w fun e w' => e = .returned (.int .i64 ((0 : Nat) * 0)) ∧ w' = w :=
  numbers_of (n := 0) (tot := 0) none w (by decide) (by decide) (alen_nil w) (atotal_nil w)
theorem meant_nil (u : Int) (w : World) : Ret Try.prog 26 #[.pointer none, .int .i64 u] w (fun v => v = .int .i64 (-1)) :=
  meant_off (n := 0) (tot := 0) none u w (by omega) (numbers_nil w)
theorem pick_nil (u : Int) (w : World) : Ret Try.prog 17 #[.pointer none, .int .i64 u] w (fun v => v = .int .i64 (-1)) := pick_of _ u _ w (meant_nil u w)
theorem ahas_nil (i : Int) (w : World) : Calls Try.prog 25 #[.pointer none, .int .i64 i] w fun e w' => e = .returned (.bool false) ∧ w' = w := by
  have := ahas_of (n := 0) none i w (alen_nil w)
  rwa [decide_eq_false (by omega)] at this
theorem ahas_off {w : World} (h : Tbl w T n tot ws TH AL) {i : Int} (hi : ¬ (0 ≤ i ∧ i < n)) : Calls Try.prog 25 #[.pointer (some ⟨T, 0, none⟩), .int .i64 i] w fun e w' => e = .returned (.bool false) ∧ w' = w := by
  have := ahas_of (n := n) (some ⟨T, 0, none⟩) i w h.len
  rwa [decide_eq_false hi] at this
theorem weight_nil (i : Int) (w : World) : Calls Try.prog 13 #[.pointer none, .int .i64 i] w fun e w' => e = .returned (.int .i64 0) ∧ w' = w := weight_off none i w (ahas_nil i w)
end
end Go.Proofs.Ytmnemandmpoioaa
