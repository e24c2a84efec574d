/- The walk of the law FaultFinds. -/
import Derived.Test.YtghdiflnkbkgaaaDoorFx
import Derived.Deep.RegionHeld
namespace Go.Proofs.YtghdiflnkbkgaaaDoor
open Go.RowKit

theorem line_nil (w : World) : Calls Tryd.prog 9 #[.nilIface] w fun e w' => e = .returned (.int .i64 0) ∧ Below w.heap.size w w' := line_any none [] (by decide) w
theorem depth_nil (w : World) : Calls Tryd.prog 10 #[.nilIface] w fun e w' => e = .returned (.int .i64 0) ∧ Below w.heap.size w w' := depth_any none [] (by decide) w

set_option maxRecDepth 100000 in
set_option maxHeartbeats 1000000 in
theorem finds_none (sv : Value) (tc : Int) (w : World) (hG : w.cell? ⟨0, 0, none⟩ = some errType) (hG0 : 0 < w.heap.size)
    (hc : Calls Tryd.prog 6 #[sv] w fun e w' => ∃ out, e = .returned (.tuple #[.nilIface, out]) ∧ w'.ownsRow w.heap.size 34 2 out 0 (flat []) ∧ Below w.heap.size w w') :
    Calls Tryd.prog 3 #[sv, .int .i64 tc] w fun e w' => e = .returned (.bool true) ∧ Below w.heap.size w w' := by
  have HC : Hid _ := hc
  clear hc
  go_enter Tryd.func3, Tryd.ntmps3
  go_wp2_with (first
    | (go_at_call 6; refine Calls.mono HC.out ?_; rintro e w1 ⟨out, rfl, hown, hb⟩; obtain ⟨oa, oc, rfl⟩ := owns_form hown; have HB : Hid (Below w.heap.size w w1) := hb; clear hown hb HC)
    | (go_at_call 7; refine (awake_any _ ((HB.out.cell (p := ⟨0, 0, none⟩) hG0).trans hG) (by have := HB.out.size; omega)).mono ?_; rintro e w2 ⟨rfl, hb⟩; have HB2 : Hid _ := hb; clear hb)
    | (go_at_call 8; refine (code_nil _).mono ?_; rintro e w3 ⟨rfl, rfl⟩)
    | (go_at_call 9; refine (line_nil _).mono ?_; rintro e w4 ⟨rfl, hb⟩; have HB4 : Hid _ := hb; clear hb)
    | (go_at_call 10; refine (depth_nil _).mono ?_; rintro e w5 ⟨rfl, hb⟩; have HB5 : Hid _ := hb; clear hb)
    | (go_at_call 11; refine (fIs_nil _ _).mono ?_; rintro e w6 ⟨rfl, rfl⟩)
    | fail)
  go_ret
  have h1 := HB.out.size
  have h2 := HB2.out.size
  have h4 := HB4.out.size
  exact ⟨rfl, ((HB.out.trans (HB2.out.mono h1)).trans (HB4.out.mono (by omega))).trans (HB5.out.mono (by omega))⟩

theorem refs_at (I : List (Int × Int)) (tc : Int) (hI : I.length ≤ 40) (hpos : 0 < I.length) {w1 : World} {base : Nat} {out : Value} (hown : w1.ownsRow base 34 2 out I.length (flat I)) :
    ∃ g cap, out = .slice (some ⟨g, 0, none⟩) I.length cap ∧ g < w1.heap.size ∧ ∀ W, Below w1.heap.size w1 W →
      (Calls Tryd.prog 12 #[.slice (some ⟨g, 0, none⟩) I.length cap, .int .i64 tc] W fun e w' => e = .returned (.bool (hasC none tc I.reverse)) ∧ w' = W) ∧
      (Calls Tryd.prog 13 #[.slice (some ⟨g, 0, none⟩) I.length cap] W fun e w' => e = .returned (.int .i64 (firstNZ I.reverse)) ∧ w' = W) ∧
      ∀ j c l, I[j]? = some (c, l) → W.cell? ⟨g, j * 2, none⟩ = some (.int .i64 c) := by
  rcases owns_cells hown with ⟨_, h⟩ | ⟨g, cap, rfl, _, hg, hc⟩
  · omega
  refine ⟨g, cap, rfl, hg, fun W hW => ⟨has_any g cap I tc hI W (fun j h => (hW.cell (p := ⟨g, j * 2, none⟩) hg).trans (hc _ _ (flat_code I j h))),
    rline_any g cap I hI W (fun j h => (hW.cell (p := ⟨g, j * 2 + 1, none⟩) hg).trans (hc _ _ (flat_line I j h))), fun j c l h => ?_⟩⟩
  obtain ⟨hj, he⟩ := List.getElem?_eq_some_iff.1 h
  have := (hW.cell (p := ⟨g, j * 2, none⟩) hg).trans (hc _ _ (flat_code I j hj))
  rw [he] at this
  exact this

theorem wrap_last {N n : Nat} (h : N = n + 1) (hn : n < 40) : IntKind.i64.wrap ((N : Int) - 1) = (n : Int) := by
  have e : (N : Int) - 1 = (n : Int) := by omega
  rw [e, IntKind.wrap_i64]
  omega

set_option maxRecDepth 100000 in
set_option maxHeartbeats 1000000 in
theorem finds_some (sv : Value) (tc c l : Int) (x : Value) (hx : x.oneCell' = true) (n : Nat) (I : List (Int × Int)) (hI : I.length ≤ 40) (hn : I.length = n + 1) (w : World) (hG : w.cell? ⟨0, 0, none⟩ = some errType) (hG0 : 0 < w.heap.size)
    (hE : chn none I.reverse = .iface 43 (.agg #[.int .i64 c, .int .i64 l, x])) (hlast : I[n]? = some (c, l))
    (hc : Calls Tryd.prog 6 #[sv] w fun e w' => ∃ out, e = .returned (.tuple #[chn none I.reverse, out]) ∧ w'.ownsRow w.heap.size 34 2 out I.length (flat I) ∧ Below w.heap.size w w') :
    Calls Tryd.prog 3 #[sv, .int .i64 tc] w fun e w' => e = .returned (.bool true) ∧ Below w.heap.size w w' := by
  have HIs : Hid _ := fun w => fIs_chn none tc I.reverse (by simp; omega) w
  have HLn : Hid _ := fun w => line_any none I.reverse (by simp; omega) w
  have HDp : Hid _ := fun w => depth_any none I.reverse (by simp; omega) w
  rw [goes_line] at HLn
  have hdp := goes_depth I.reverse 1
  simp only [Int.sub_self] at hdp
  rw [hdp] at HDp
  rw [hE] at hc HIs HLn HDp
  simp only [List.length_reverse, Int.zero_add] at HDp
  have HR : Hid _ := fun (w1 : World) (out : Value) (h : w1.ownsRow w.heap.size 34 2 out I.length (flat I)) => refs_at I tc hI (by omega) h
  have HLast : Hid _ := hlast
  generalize hasC none tc I.reverse = has at HIs HR
  generalize firstNZ I.reverse = fl at HLn HR
  have HC : Hid _ := hc
  clear hc hE hlast hdp
  obtain ⟨N, hN⟩ : ∃ N, N = I.length := ⟨_, rfl⟩
  rw [← hN] at HC HDp HR
  have hn40 : n < 40 := by omega
  have HN : Hid (N = n + 1) := by rw [hN, hn]; rfl
  have hN3 : N ≤ 40 := by omega
  have hN5 : 0 < N := by omega
  clear hn hI hN
  go_enter Tryd.func3, Tryd.ntmps3
  go_wp2_with (first
    | (go_at_call 6; refine Calls.mono HC.out ?_; rintro e w1 ⟨out, rfl, hown, hb⟩; obtain ⟨g, cap, rfl, hg, hR⟩ := HR.out w1 out hown; have HW : Hid _ := hR; have HB : Hid (Below w.heap.size w w1) := hb; clear hown hb HC HR hR)
    | fail)
  have hw1 := HB.out.size
  have hcl : ∀ W, Below w1.heap.size w1 W → W.cell? ⟨g, n * 2, none⟩ = some (.int .i64 c) := fun W h => (HW.out W h).2.2 n c l HLast.out
  have HCL : Hid _ := hcl
  clear hcl
  have h01 : 0 < w1.heap.size := by omega
  have hnN : (n : Int) < (N : Int) := by have := HN.out; omega
  have hwr : IntKind.i64.wrap ((N : Int) - 1) = (n : Int) := wrap_last HN.out hn40
  have hG1 : w1.cell? ⟨0, 0, none⟩ = some errType := (HB.out.cell (p := ⟨0, 0, none⟩) hG0).trans hG
  have HG1 : Hid _ := hG1
  clear hG hG1
  go_region_held (fun w' => Below w1.heap.size w1 w' ∧ w'.cell? ⟨g, n * 2, none⟩ = some (.int .i64 c)) (first | assumption | exact ⟨(Below.refl _ _).drew, HCL.out _ ((Below.refl _ _).drew)⟩)
   (first
    | (go_at_call 7; refine (awake_any _ ?_ ?_).mono ?_; exact HG1.out; exact h01; rintro e w2 ⟨rfl, hb⟩; have HB2 : Hid (Below w1.heap.size w1 w2) := (Below.refl _ _).drew.trans hb; have hS2 : Below w1.heap.size w1 w2 ∧ w2.cell? ⟨g, n * 2, none⟩ = some (.int .i64 c) := ⟨HB2.out, HCL.out _ HB2.out⟩; clear hb)
    | (go_at_call 11; refine Calls.mono (HIs.out _) ?_; rintro e w3 ⟨rfl, hb⟩; have HB3 : Hid (Below w1.heap.size w1 w3) := HB2.out.trans (hb.mono HB2.out.size); have hS3 : Below w1.heap.size w1 w3 ∧ w3.cell? ⟨g, n * 2, none⟩ = some (.int .i64 c) := ⟨HB3.out, HCL.out _ HB3.out⟩; clear hb)
    | (go_at_call 12; refine Calls.mono (HW.out _ ?_).1 ?_; exact HB3.out; rintro e w' ⟨rfl, hw⟩; obtain rfl := hw.symm)
    | (go_at_call 8; refine (code_flt c l x hx _ ?_ ?_).mono ?_; exact (HB3.out.cell (p := ⟨0, 0, none⟩) h01).trans HG1.out; exact Nat.lt_of_lt_of_le h01 HB3.out.size; rintro e w4 ⟨rfl, hb⟩; have HB4 : Hid (Below w1.heap.size w1 w4) := HB3.out.trans (hb.mono HB3.out.size); have hS4 : Below w1.heap.size w1 w4 ∧ w4.cell? ⟨g, n * 2, none⟩ = some (.int .i64 c) := ⟨HB4.out, HCL.out _ HB4.out⟩; clear hb)
    | (go_at_call 9; refine Calls.mono (HLn.out _) ?_; rintro e w5 ⟨rfl, hb⟩; have HB5 : Hid (Below w1.heap.size w1 w5) := HB4.out.trans (hb.mono HB4.out.size); have hS5 : Below w1.heap.size w1 w5 ∧ w5.cell? ⟨g, n * 2, none⟩ = some (.int .i64 c) := ⟨HB5.out, HCL.out _ HB5.out⟩; clear hb)
    | (go_at_call 13; refine Calls.mono (HW.out _ ?_).2.1 ?_; exact HB5.out; rintro e w' ⟨rfl, hw⟩; obtain rfl := hw.symm)
    | (go_at_call 10; refine Calls.mono (HDp.out _) ?_; rintro e w6 ⟨rfl, hb⟩; have HB6 : Hid (Below w1.heap.size w1 w6) := HB5.out.trans (hb.mono HB5.out.size); have hS6 : Below w1.heap.size w1 w6 ∧ w6.cell? ⟨g, n * 2, none⟩ = some (.int .i64 c) := ⟨HB6.out, HCL.out _ HB6.out⟩; clear hb)
    | fail)
  all_goals
    go_wp2
    go_ret
    exact ⟨rfl, HB.out.trans (HB6.out.mono hw1)⟩
end Go.Proofs.YtghdiflnkbkgaaaDoor
