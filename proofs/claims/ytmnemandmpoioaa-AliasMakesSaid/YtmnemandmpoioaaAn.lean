/- Package alias: awake. -/
import Derived.Deep.LoopGhost
import Derived.Test.YtmnemandmpoioaaAi
import Derived.Test.YtmnemandmpoioaaAm
namespace Go.Proofs.Ytmnemandmpoioaa
open Go.RowKit Fl

def awW : Nat → Int := fun i => if i = 0 then 1 else 3
theorem aw_sum : sumN awW 2 = 4 := by decide +kernel
theorem aw_good : firstBad awW 0 2 < 0 := by decide +kernel
theorem aw_pick : ∀ j, j < 8 → meantF 2 4 (colsF 4 2 awW).1 (colsF 4 2 awW).2 (j : Nat) = if j < 2 then 0 else 1 := by decide +kernel
theorem aw_draw : meantF 2 4 (colsF 4 2 awW).1 (colsF 4 2 awW).2 (drawK (cleanF 4607092346807469998) ((2 : Nat) * 4)) = 1 := by decide +kernel
theorem aw_off : meantF 2 4 (colsF 4 2 awW).1 (colsF 4 2 awW).2 8 = -1 := by decide +kernel
theorem aw_chance : fdiv (fi 3) (fi 4) = 4604930618986332160 := by decide +kernel
theorem aw_eq : (FloatKind.f64.format.order 4604930618986332160 4604930618986332160 == some .eq) = true := by decide +kernel

set_option maxRecDepth 100000 in
set_option maxHeartbeats 2000000 in
theorem aw_new (w : World) : Calls Try.prog 7 #[.slice (some ⟨w.heap.size, 0, none⟩) 2 2] (w.alloc (.cells #[.int .i64 1, .int .i64 3] 3)) fun e w' => ∃ T, e = .returned (.tuple #[.pointer (some ⟨T, 0, none⟩), .int .i64 0]) ∧ Tbl w' T 2 4 awW (colsF 4 2 awW).1 (colsF 4 2 awW).2 ∧ Below w.heap.size w w' := by
  have hI : Nms (w.alloc (.cells #[.int .i64 1, .int .i64 3] 3)) (some ⟨w.heap.size, 0, none⟩) 2 awW := .inr ⟨w.heap.size, 0, rfl, Iro.rd ⟨_, Lp.Bk.al w #[.int .i64 1, .int .i64 3] 3, fun i hi => by
    match i, hi with
    | 0, _ => rfl
    | 1, _ => rfl⟩⟩
  refine Calls.mono (new_good 2 2 _ awW _ hI (by decide) (by decide) aw_good) ?_
  rintro e w' ⟨hb, hr⟩
  rw [aw_sum] at hr
  rw [if_neg (by decide)] at hr
  obtain ⟨T, he, hT⟩ := hr
  exact ⟨T, he, hT, ((Below.refl _ _).alloc (Nat.le_refl _) _).trans (hb.mono (by simp))⟩

set_option maxRecDepth 100000 in
set_option maxHeartbeats 2000000 in
theorem awake_any (w : World) : Ret Try.prog 6 #[] w (fun v => v = .bool true) := by
  unfold Ret
  have HN := hid (aw_new w)
  have HP := hid (fun (j : Nat) (T : Nat) (w : World) (h : Tbl w T 2 4 awW (colsF 4 2 awW).1 (colsF 4 2 awW).2) (hj : j < 8) => (aw_pick j hj) ▸ pick_any (j : Int) w h (by decide) (by decide))
  have HO := hid (fun (T : Nat) (w : World) (h : Tbl w T 2 4 awW (colsF 4 2 awW).1 (colsF 4 2 awW).2) => aw_off ▸ pick_any 8 w h (by decide) (by decide))
  have HD := hid (fun (T : Nat) (w : World) (h : Tbl w T 2 4 awW (colsF 4 2 awW).1 (colsF 4 2 awW).2) => aw_draw ▸ draw_any 4607092346807469998 w h (by decide) (by decide) (by decide))
  have HC := hid (fun (T : Nat) (w : World) (h : Tbl w T 2 4 awW (colsF 4 2 awW).1 (colsF 4 2 awW).2) => (show fdiv (fi (awW 1)) (fi 4) = _ from aw_chance) ▸ chance_on 1 w h (by decide) (by decide) (by decide))
  generalize colsF 4 2 awW = F at *
  have hae := aw_eq
  go_enter Try.func6, Try.ntmps6
  go_wp2_with fail
  refine Calls.mono HN.out ?_
  rintro e w1 ⟨T, rfl, hT, hb⟩
  go_wp2_with fail
  go_loopg [3, 4] 8 (fun k c i wr => ∃ j : Nat, k + j = 8 ∧ i = .int .i64 (j : Int) ∧ c = .int .i64 ((min j 2 : Nat) : Int) ∧ Tbl wr T 2 4 awW F.1 F.2 ∧ Below w.heap.size w wr)
  case atStart => exact ⟨0, rfl, rfl, rfl, hT, hb⟩
  case round =>
    clear hT hb HN
    obtain ⟨g0, hg0⟩ : ∃ g0, g0 = gk := ⟨_, rfl⟩
    subst hg0
    obtain ⟨j, hk, rfl, rfl, hT, hb⟩ := hrel
    have HK := aside hk
    have HT := hid hT
    have HB := hid hb
    clear hk hT hb
    by_cases hj : j < 8
    · have hd : ((j : Int) < 8) = True := eq_true (by omega)
      by_cases h2 : j < 2
      · have HP2 := hid (HP.out j T wr HT.out hj)
        rw [if_pos h2] at HP2
        have e1 : min j 2 = j := Nat.min_eq_left (by omega)
        rw [e1]
        clear e1
        go_wp2_with fail
        refine Calls.mono HP2.out ?_
        rintro e w2 ⟨v, rfl, rfl, hb⟩
        have HT2 := hid (HT.out.keep hb)
        have HB2 := hid (HB.out.trans (hb.mono HB.out.size))
        clear hb
        go_wp2_with fail
        go_roundg (g0 - 1)
        case measure => have := HK.out; omega
        case rel => exact ⟨j + 1, by have := HK.out; omega, by go_num, by rw [Nat.min_eq_left (by omega)]; rfl, HT2.out, HB2.out⟩
      · have HP2 := hid (HP.out j T wr HT.out hj)
        rw [if_neg h2] at HP2
        have e1 : min j 2 = 2 := Nat.min_eq_right (by omega)
        rw [e1]
        clear e1
        go_wp2_with fail
        refine Calls.mono HP2.out ?_
        rintro e w2 ⟨v, rfl, rfl, hb⟩
        have HT2 := hid (HT.out.keep hb)
        have HB2 := hid (HB.out.trans (hb.mono HB.out.size))
        clear hb
        go_wp2_with fail
        go_roundg (g0 - 1)
        case measure => have := HK.out; omega
        case rel => exact ⟨j + 1, by have := HK.out; omega, by go_num, by rw [Nat.min_eq_right (by omega)]; rfl, HT2.out, HB2.out⟩
    · have hd : ((j : Int) < 8) = False := eq_false (by omega)
      have hjn : j = 8 := by have := HK.out; omega
      subst hjn
      rw [show min 8 2 = 2 from rfl]
      go_wp2_with fail
      refine Calls.mono HT.out.total ?_
      rintro e w2 ⟨rfl, hw⟩
      obtain rfl := hw.symm
      clear hw
      go_wp2_with fail
      refine Calls.mono (HO.out T _ HT.out) ?_
      rintro e w2 ⟨v, rfl, rfl, hb⟩
      have HT2 := hid (HT.out.keep hb)
      have HB2 := hid (HB.out.trans (hb.mono HB.out.size))
      clear hb
      go_wp2_with fail
      refine Calls.mono (HD.out T _ HT2.out) ?_
      rintro e w3 ⟨v, rfl, rfl, hb⟩
      have HT3 := hid (HT2.out.keep hb)
      have HB3 := hid (HB2.out.trans (hb.mono HB2.out.size))
      clear hb
      go_wp2_with fail
      refine Calls.mono (HC.out T _ HT3.out) ?_
      rintro e w4 ⟨v, rfl, rfl, hb⟩
      have HB4 := hid (HB3.out.trans (hb.mono HB3.out.size))
      clear hb
      go_wp2_with fail
      go_ret
      exact ⟨_, rfl, rfl, HB4.out⟩
end Go.Proofs.Ytmnemandmpoioaa
