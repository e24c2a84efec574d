/- Package pcg: draws below 1: Float, Fill. -/
import Derived.Deep.LoopGhost
import Derived.Laws.MakeOwn
import Derived.Test.YtjjjehghjhdceaaRows
import Derived.Test.YtjjjehghjhdceaaPc
import Derived.Test.YtjjjehghjhdceaaXd
namespace Go.Proofs.Ytjjjehghjhdceaa
open Go.RowKit Fl

/-- A number of 32 bits, brought below 1. -/
def drawF (n : Int) : Nat := fmul (floatOfInt .f64 n) 4463067230724161536
def wantF (n : Int) : Nat := fdiv (floatOfInt .f64 n) 4751297606875873280
theorem read_part : F64.read 4463067230724161536 = .number false 4503599627370496 (-84) := by decide +kernel
theorem num_part : Num 4463067230724161536 := ⟨_, _, _, read_part⟩
theorem val_part : val 4463067230724161536 = 2 ^ (-32 : Int) := by unfold val; rw [read_part]; decide +kernel
theorem read_two32 : F64.read 4751297606875873280 = .number false 4503599627370496 (-20) := by decide +kernel
theorem draw_ex {n : Int} (h0 : 0 ≤ n) (h1 : n < 4294967296) : Ex ((n : Rat) * 2 ^ (-32 : Int)) :=
  ⟨false, n.toNat, -32, by omega, by decide, by decide, by
    rw [dval_number]
    simp only [sg, Bool.false_eq_true, if_false]
    rw [← Rat.intCast_natCast]
    congr 2
    omega⟩
theorem draw_val {n : Int} (h0 : 0 ≤ n) (h1 : n < 4294967296) : Num (drawF n) ∧ val (drawF n) = (n : Rat) * 2 ^ (-32 : Int) := by
  obtain ⟨a, v⟩ := ofint_val (n := n) (by omega) (by omega)
  have e : val (floatOfInt .f64 n) * val 4463067230724161536 = (n : Rat) * 2 ^ (-32 : Int) := by rw [v, val_part]
  obtain ⟨b, u⟩ := mul_ex a num_part (by rw [e]; exact draw_ex h0 h1)
  exact ⟨b, by rw [← e]; exact u⟩
theorem want_val {n : Int} (h0 : 0 ≤ n) (h1 : n < 4294967296) : Num (wantF n) ∧ val (wantF n) = (n : Rat) * 2 ^ (-32 : Int) := by
  obtain ⟨a, v⟩ := ofint_val (n := n) (by omega) (by omega)
  obtain ⟨b, u⟩ := div_ex a read_two32 (by rw [v]; exact draw_ex h0 h1)
  exact ⟨b, by rw [v] at u; exact u⟩
theorem draw_want {n : Int} (h0 : 0 ≤ n) (h1 : n < 4294967296) : FloatKind.f64.format.order (drawF n) (wantF n) = some .eq := by
  obtain ⟨a, v⟩ := draw_val h0 h1
  obtain ⟨b, u⟩ := want_val h0 h1
  exact ord_eq a b (v.trans u.symm)
theorem p32 : (2 : Rat) ^ (-32 : Int) = 1 / 4294967296 := by decide +kernel
theorem draw_ge {n : Int} (h0 : 0 ≤ n) (h1 : n < 4294967296) : (FloatKind.f64.format.order (drawF n) 0 == some .lt) = false := by
  obtain ⟨a, v⟩ := draw_val h0 h1
  have h := lt_val a num_zero
  rw [val_zero, v, p32] at h
  refine Eq.trans h (decide_eq_false ?_)
  have : (0 : Rat) ≤ (n : Rat) := by exact_mod_cast h0
  grind
theorem num_one1 : Num 4607182418800017408 := ⟨false, 4503599627370496, -52, by decide +kernel⟩
theorem val_one1 : val 4607182418800017408 = 1 := by decide +kernel
theorem draw_lt {n : Int} (h0 : 0 ≤ n) (h1 : n < 4294967296) : (FloatKind.f64.format.order (drawF n) 4607182418800017408 == some .gt || FloatKind.f64.format.order (drawF n) 4607182418800017408 == some .eq) = false := by
  obtain ⟨a, v⟩ := draw_val h0 h1
  have h := leB_val num_one1 a
  rw [val_one1, v, p32] at h
  rw [← geB_eq] at h
  refine Eq.trans h (decide_eq_false ?_)
  have : (n : Rat) < ((4294967296 : Int) : Rat) := Rat.intCast_lt_intCast.2 h1
  have e : ((4294967296 : Int) : Rat) = 4294967296 := by decide +kernel
  grind
theorem run_draw (t : TypeId) {n : Int} (h0 : 0 ≤ n) (h1 : n < 4294967296) (w : World) : (binOp .mul t (.float .f64 (floatOfInt .f64 n)) (.float .f64 4463067230724161536)).run Try.prog w = .ok (.float .f64 (drawF n)) w :=
  run_mul_num w t (ofint_val (by omega) (by omega)).1 num_part
theorem run_want (t : TypeId) {n : Int} (h0 : 0 ≤ n) (h1 : n < 4294967296) (w : World) : (binOp .quo t (.float .f64 (floatOfInt .f64 n)) (.float .f64 4751297606875873280)).run Try.prog w = .ok (.float .f64 (wantF n)) w :=
  run_div_num w t (ofint_val (by omega) (by omega)).1 read_two32 (by decide)

set_option maxRecDepth 100000 in
set_option maxHeartbeats 1000000 in
theorem fraction_any (G : Value) (w : World) : Calls Try.prog 20 #[.func (.func 12) #[G] #[]] w fun e w' => e = .returned (.func (.func 23) #[] #[.pointer (some ⟨w.heap.size, 0, none⟩)]) ∧
    w' = w.alloc (.cells #[.func (.func 12) #[G] #[]] 35) := by
  go_enter Try.func20, Try.ntmps20
  go_wp2_with fail
  go_ret
  exact ⟨rfl, rfl⟩

set_option maxRecDepth 100000 in
set_option maxHeartbeats 1000000 in
theorem fraction1_any (S C : Int) (G D : Nat) (w : World) (hr : 0 ≤ S ∧ S < 18446744073709551616) (hG : Gn w G S C) (hD : Lp.Bk w D #[.func (.func 12) #[.pointer (some ⟨G, 0, none⟩)] #[]] 35) :
    Calls Try.prog 23 #[.pointer (some ⟨D, 0, none⟩)] w fun e w' => e = .returned (.float .f64 (drawF (numF S))) ∧ Gn w' G (stepF S C) C ∧ But G w w' := by
  have HX : Hid _ := next_any S C G w hr.1 hr.2 hG
  have hn := num_range hr.1 hr.2
  have hm : ∀ w, _ := run_draw 44 hn.1 hn.2
  obtain ⟨n0, n1⟩ := hn
  generalize drawF (numF S) = z at *
  generalize numF S = n at *
  have kD := Lp.Bk.cell hD
  clear hG hr
  go_enter Try.func23, Try.ntmps23
  go_wp2_with fail
  refine Calls.mono HX.out ?_
  rintro e w1 ⟨rfl, hG, HB⟩
  clear kD hD
  go_wp2_with fail
  go_ret
  exact ⟨rfl, hG, HB⟩

set_option maxRecDepth 100000 in
set_option maxHeartbeats 1000000 in
theorem fraction1_nil (D : Nat) (w : World) (hD : Lp.Bk w D #[.func (.func 12) #[.pointer none] #[]] 35) :
    Calls Try.prog 23 #[.pointer (some ⟨D, 0, none⟩)] w fun e w' => e = .returned (.float .f64 (drawF 0)) ∧ w' = w := by
  have HX : Hid _ := next_nil w
  have hm : ∀ w, _ := run_draw (n := 0) 44 (by decide) (by decide)
  generalize drawF 0 = z at *
  have kD := Lp.Bk.cell hD
  go_enter Try.func23, Try.ntmps23
  go_wp2_with fail
  refine Calls.mono HX.out ?_
  rintro e w1 ⟨rfl, hw⟩
  obtain rfl := hw.symm
  clear hw
  go_wp2_with fail
  go_ret
  exact ⟨rfl, rfl⟩

theorem draw_zero : drawF 0 = 0 := by decide +kernel

set_option maxRecDepth 100000 in
set_option maxHeartbeats 1000000 in
theorem float_nil (w : World) : Ret Try.prog 16 #[.pointer none] w (fun v => v = .float .f64 0) := by
  unfold Ret
  have HF : Hid _ := fun w => fraction_any (.pointer none) w
  have H1 : Hid _ := fun D w hD => fraction1_nil D w hD
  rw [draw_zero] at H1
  go_enter Try.func16, Try.ntmps16
  go_wp2_with fail
  refine Calls.mono (HF.out _) ?_
  rintro e w1 ⟨rfl, hw⟩
  obtain rfl := hw
  go_wp2_with fail
  refine Calls.mono (H1.out _ _ (Lp.Bk.al _ _ _)) ?_
  rintro e w1 ⟨rfl, hw⟩
  obtain rfl := hw
  go_wp2_with fail
  go_ret
  exact ⟨_, rfl, rfl, (Below.refl _ _).alloc (Nat.le_refl _) _⟩
end Go.Proofs.Ytjjjehghjhdceaa
