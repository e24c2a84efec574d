/- Package tape: what must come at any rate. -/
import Derived.Test.YthbcbeaagmgafaaRows
import Derived.Test.YthbcbeaagmgafaaTi
import Derived.Test.YthbcbeaagmgafaaTe
namespace Go.Proofs.Ythbcbeaagmgafaa
open Go.RowKit Fl

def awL : List Nat := [4602678819172646912, 4607182418800017408, 4598175219545276416]
theorem aw_at (i : Int) (x : Nat) (R : Int → Int) (hd : drawF awL i = x) (hr : ∀ r, readF r i = R r) (hi : i ≤ 9223372036854775807) (T : Nat) (r : Int) (w : World) (h : Tp w T awL r) : Calls Try.prog 8 #[.pointer (some ⟨T, 0, none⟩), .int .i64 i] w fun e w' => e = .returned (.float .f64 x) ∧ Below T w w' ∧ Tp w' T awL (R r) := by
  have k := at_any T awL r i w h hi
  rw [hd, hr] at k
  exact k
theorem aw_row (w : World) : Row (w.heap.size + 1) (w.alloc (.cells #[.float .f64 4602678819172646912, .float .f64 4607182418800017408, .float .f64 4598175219545276416] 26)) (.slice (some ⟨w.heap.size, 0, none⟩) 3 3) awL := by
  refine ⟨_, 3, rfl, by decide, .inr ⟨w.heap.size, 0, rfl, by omega, fun k hk => ?_⟩⟩
  rw [(Lp.Bk.al w _ 26).cell, Nat.zero_add]
  match k, hk with
  | 0, _ => rfl
  | 1, _ => rfl
  | 2, _ => rfl
theorem aw_need : outN (needF 2 3 4 0) = .tuple #[.int .i64 288, .int .i64 0] := by simp [outN, needF, confP, slotsF]
theorem aw_slot : slotF 2 4 0 1 1 2 3 = 171 := by decide +kernel

set_option maxRecDepth 100000 in
set_option maxHeartbeats 2000000 in
theorem awake_any (w : World) : Ret Try.prog 11 #[] w (fun v => v = .bool true) := by
  unfold Ret
  have HN : Hid _ := need_any 2 3 4 0
  rw [aw_need] at HN
  have HS : Hid _ := slot_any 2 4 0 1 1 2 3
  rw [aw_slot] at HS
  have H0 : Hid _ := aw_at 0 4602678819172646912 (fun r => max r 1) (by decide +kernel) (fun r => rfl) (by decide)
  have H1 : Hid _ := aw_at 1 0 (fun r => max r 2) (by decide +kernel) (fun r => rfl) (by decide)
  have H2 : Hid _ := aw_at 2 4598175219545276416 (fun r => max r 3) (by decide +kernel) (fun r => rfl) (by decide)
  have H9 : Hid _ := aw_at 9 0 (fun r => max r 10) (by decide +kernel) (fun r => rfl) (by decide)
  have e0 : (FloatKind.f64.format.order 4602678819172646912 4602678819172646912 == some .eq) = true := by decide +kernel
  have e1 : (FloatKind.f64.format.order 0 0 == some .eq) = true := by decide +kernel
  have e2 : (FloatKind.f64.format.order 4598175219545276416 4598175219545276416 == some .eq) = true := by decide +kernel
  go_enter Try.func11, Try.ntmps11
  go_wp2_with fail
  have hb0 : Below w.heap.size w (w.alloc (.cells #[.float .f64 4602678819172646912, .float .f64 4607182418800017408, .float .f64 4598175219545276416] 26)) := (Below.refl _ _).alloc (Nat.le_refl _) _
  refine Calls.mono (over_any awL (w.heap.size + 1) _ _ (aw_row w) (by simp)) ?_
  rintro e w1 ⟨B, rfl, hB, hT, hb⟩
  have hBw : w.heap.size ≤ B := by simp at hB; omega
  have HB : Below w.heap.size w w1 := hb0.trans (hb.mono (by simp))
  clear hb0 hb hB
  go_wp2_with fail
  refine Calls.mono (HN.out _) ?_
  rintro e w2 ⟨v, rfl, rfl, hb⟩
  replace hT := hT.keep hb
  replace HB := HB.trans (hb.mono HB.size)
  clear hb
  go_wp2_with fail
  refine Calls.mono (H0.out _ _ _ hT) ?_
  rintro e w3 ⟨rfl, hb, hT⟩
  replace HB := HB.trans (hb.mono hBw)
  clear hb
  go_wp2_with fail
  refine Calls.mono (H1.out _ _ _ hT) ?_
  rintro e w4 ⟨rfl, hb, hT⟩
  replace HB := HB.trans (hb.mono hBw)
  clear hb
  go_wp2_with fail
  refine Calls.mono (H2.out _ _ _ hT) ?_
  rintro e w5 ⟨rfl, hb, hT⟩
  replace HB := HB.trans (hb.mono hBw)
  clear hb
  go_wp2_with fail
  refine Calls.mono (H9.out _ _ _ hT) ?_
  rintro e w6 ⟨rfl, hb, hT⟩
  replace HB := HB.trans (hb.mono hBw)
  clear hb
  go_wp2_with fail
  refine Calls.mono (read_any _ _ 10 _ hT) ?_
  rintro e w7 ⟨rfl, hw⟩
  obtain rfl := hw.symm
  clear hw
  go_wp2_with fail
  refine Calls.mono (len_any _ _ _ _ hT) ?_
  rintro e w8 ⟨rfl, hw⟩
  obtain rfl := hw.symm
  clear hw
  have hl : (awL.length : Int) = 3 := rfl
  rw [hl]
  go_wp2_with fail
  refine Calls.mono (HS.out _) ?_
  rintro e w9 ⟨v, rfl, rfl, hb⟩
  replace HB := HB.trans (hb.mono HB.size)
  clear hb hT
  go_wp2_with fail
  go_ret
  exact ⟨_, rfl, rfl, HB⟩
end Go.Proofs.Ythbcbeaagmgafaa
