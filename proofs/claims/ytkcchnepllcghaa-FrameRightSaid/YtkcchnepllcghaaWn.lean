/- The walk of the law FrameRight. -/
import Derived.Test.YtkcchnepllcghaaRows
import Derived.Test.YtkcchnepllcghaaWa
import Derived.Test.YtkcchnepllcghaaWh
import Derived.Test.YtkcchnepllcghaaWm
import Derived.Test.YtkcchnepllcghaaVr
import Derived.Test.YtkcchnepllcghaaVt
namespace Go.Proofs.Ytkcchnepllcghaa
open Go.RowKit Fl

set_option maxRecDepth 100000 in
set_option maxHeartbeats 1000000 in
theorem near_any (a b p q : Nat) (hq : fdiv p 4787326403894837248 = q) (w : World) : Ret Try.prog 17 #[.float .f64 a, .float .f64 b, .float .f64 p] w (fun v => v = .bool (nearQ a b q)) := by
  unfold Ret nearQ
  have HP : Hid (∀ r, Eqv r (fsub a b) → (FloatKind.f64.format.order r 0 == some .lt) = (ford (fsub a b) 0 == some .lt)) := fun r h => by rw [← ford_congr h.sm (Sm.refl 0)]; rfl
  have HQ : Hid (∀ r t e, Eqv r e → Eqv t q → ((FloatKind.f64.format.order r t == some .lt) || (FloatKind.f64.format.order r t == some .eq)) = (ford e q == some .lt || ford e q == some .eq)) := fun r t e h k => by rw [← ford_congr h.sm k.sm]; rfl
  dsimp only
  generalize (ford (fsub a b) 0 == some .lt) = c at HP ⊢
  cases c
  · go_enter Try.func17, Try.ntmps17
    go_wp2_with fail
    refine upon_sub (Sm.refl _) (Sm.refl _) ?_
    intro r1 n1 h1
    have hp := HP.out r1 h1
    go_wp2_with fail
    refine upon_div (Sm.refl _) (Sm.refl _) ?_
    intro r2 n2 h2
    rw [hq] at h2
    have hr := HQ.out _ _ _ h1 h2
    go_wp2_with fail
    go_ret
    exact ⟨_, rfl, rfl, below_dr (Below.refl _ _) _⟩
  · go_enter Try.func17, Try.ntmps17
    go_wp2_with fail
    refine upon_sub (Sm.refl _) (Sm.refl _) ?_
    intro r1 n1 h1
    have hp := HP.out r1 h1
    go_wp2_with fail
    refine upon_sub (Sm.refl _) h1.sm ?_
    intro r3 n3 h3
    go_wp2_with fail
    refine upon_div (Sm.refl _) (Sm.refl _) ?_
    intro r2 n2 h2
    rw [hq] at h2
    have hr := HQ.out _ _ _ h3 h2
    go_wp2_with fail
    go_ret
    exact ⟨_, rfl, rfl, below_dr (Below.refl _ _) _⟩

theorem nearQ_congr {a A b q : Nat} (h : Sm a A) : nearQ a b q = nearQ A b q := by
  unfold nearQ
  rw [fsub_congr h (Sm.refl b)]

theorem q40_eq : fdiv 4607182418800017408 4787326403894837248 = q40 := by decide +kernel
theorem q30_eq : fdiv 4652218415073722368 4787326403894837248 = q30 := by decide +kernel

theorem near_one {r D : Nat} (h : Eqv r D) (w : World) : Ret Try.prog 17 #[.float .f64 r, .float .f64 4607182418800017408, .float .f64 4607182418800017408] w (fun v => v = .bool (nearQ D p1w q40)) :=
  (near_any r p1w p1w q40 q40_eq w).mono fun v hv => by rw [hv, nearQ_congr h.sm]

theorem near_true {r D b : Nat} (h : Eqv r D) (k : nearQ D b q30 = true) (w : World) : Ret Try.prog 17 #[.float .f64 r, .float .f64 b, .float .f64 4652218415073722368] w (fun v => v = .bool true) :=
  (near_any r b 4652218415073722368 q30 q30_eq w).mono fun v hv => by rw [hv, nearQ_congr h.sm, k]

theorem dir_of {x y z : Nat} (h : nearQ (dotR x y z x y z) p1w q40 = true) : Dir x y z (sideF z) := by
  obtain ⟨hD, v, hv, hnr⟩ := nearQ_num num_p1 num_q40 val_q40 h
  have hs := hnr.small hv
  rw [val_p1] at hs
  have hs2 := hs.mono (show _ ≤ (1 / 549755813888 : Rat) by grind)
  obtain ⟨hx, hy, hz, hn⟩ := square_parts hD hs2 (by grind)
  have hl := lt_val hz num_zero
  rw [val_zero] at hl
  by_cases hc : val z < 0
  · have e : sideF z = m1w := by unfold sideF; rw [hl, decide_eq_true hc]; rfl
    rw [e]
    exact ⟨hx, hy, hz, num_m1, by rw [val_m1]; grind, by rw [val_m1]; grind, hn.mono (by grind)⟩
  · have e : sideF z = p1w := by unfold sideF; rw [hl, decide_eq_false hc]; rfl
    rw [e]
    exact ⟨hx, hy, hz, num_p1, by rw [val_p1]; grind, by rw [val_p1]; grind, hn.mono (by grind)⟩

theorem dot_sm {a b c d e f A B C D E F : Nat} (ha : Sm a A) (hb : Sm b B) (hc : Sm c C) (hd : Sm d D) (he : Sm e E) (hf : Sm f F) : dotR a b c d e f = dotR A B C D E F := by
  unfold dotR
  rw [fmul_congr ha hd, fmul_congr hb he, fmul_congr hc hf]

/-- The frame's five products, of numbers that are those of the frame. -/
theorem right_five {x y z : Nat} (h : Dir x y z (sideF z)) {a0 a1 a2 b0 b1 b2 : Nat}
    (h0 : Eqv a0 (fadd w1p (fmul (fmul (fmul (sideF z) x) x) (frA z)))) (h1 : Eqv a1 (fmul (sideF z) (fmul (fmul x y) (frA z)))) (h2 : Eqv a2 (fsub 0 (fmul (sideF z) x)))
    (k0 : Eqv b0 (fmul (fmul x y) (frA z))) (k1 : Eqv b1 (fadd (sideF z) (fmul (fmul y y) (frA z)))) (k2 : Eqv b2 (fsub 0 y)) :
    nearQ (dotR a0 a1 a2 a0 a1 a2) p1w q30 = true ∧ nearQ (dotR b0 b1 b2 b0 b1 b2) p1w q30 = true ∧ nearQ (dotR a0 a1 a2 b0 b1 b2) 0 q30 = true ∧ nearQ (dotR a0 a1 a2 x y z) 0 q30 = true ∧ nearQ (dotR b0 b1 b2 x y z) 0 q30 = true := by
  obtain ⟨r1, r2, r3, r4, r5⟩ := h.right (a := frA z) rfl rfl rfl rfl rfl rfl rfl
  rw [dot_sm h0.sm h1.sm h2.sm h0.sm h1.sm h2.sm, dot_sm k0.sm k1.sm k2.sm k0.sm k1.sm k2.sm, dot_sm h0.sm h1.sm h2.sm k0.sm k1.sm k2.sm, dot_sm h0.sm h1.sm h2.sm (Sm.refl x) (Sm.refl y) (Sm.refl z), dot_sm k0.sm k1.sm k2.sm (Sm.refl x) (Sm.refl y) (Sm.refl z)]
  exact ⟨r1, r2, r3, r4, r5⟩

set_option maxRecDepth 100000 in
set_option maxHeartbeats 1000000 in
theorem right_walk (vx vy vz : Nat) (w : World) : Ret Try.prog 5 #[.agg #[.float .f64 vx, .float .f64 vy, .float .f64 vz]] w (fun v => v = .bool true) := by
  unfold Ret
  have HU : Hid (∀ w, Ret Try.prog 16 #[.agg #[.float .f64 vx, .float .f64 vy, .float .f64 vz]] w (fun v => ∃ a b c, v = .tuple #[.agg #[.float .f64 a, .float .f64 b, .float .f64 c], .bool (unitR (lenR vx vy vz))] ∧ Wd a ∧ Wd b ∧ Wd c)) := fun w => (runit_any vx vy vz w).mono fun v ⟨a, b, c, hv, ha, hb, hc⟩ => ⟨a, b, c, hv, ha.wd, hb.wd, hc.wd⟩
  generalize unitR (lenR vx vy vz) = u at HU
  cases u
  · go_enter Try.func5, Try.ntmps5
    go_wp2_with fail
    refine Calls.mono (HU.out _) ?_
    rintro e w1 ⟨v, rfl, ⟨x, y, z, rfl, gx, gy, gz⟩, hb⟩
    have H1 : Hid (Cl (w.alloc (.cells #[.float .f64 vx, .float .f64 vy, .float .f64 vz] 24)) w1) := hb
    clear hb
    go_wp2_with fail
    refine Calls.mono (awake_any _) ?_
    rintro e w2 ⟨v, rfl, rfl, hb⟩
    have H2 : Hid (Cl (w.alloc (.cells #[.float .f64 vx, .float .f64 vy, .float .f64 vz] 24)) w2) := (H1.out.alloc _).call hb
    clear hb
    go_wp2_with fail
    go_ret
    exact ⟨_, rfl, rfl, H2.out.out1⟩
  · go_enter Try.func5, Try.ntmps5
    go_wp2_with fail
    refine Calls.mono (HU.out _) ?_
    rintro e w1 ⟨v, rfl, ⟨x, y, z, rfl, gx, gy, gz⟩, hb⟩
    have H1 : Hid (Cl (w.alloc (.cells #[.float .f64 vx, .float .f64 vy, .float .f64 vz] 24)) w1) := hb
    clear hb HU
    go_wp2_with fail
    refine Calls.mono (rdot_any x y z x y z _) ?_
    rintro e w2 ⟨v, rfl, ⟨r, rfl, hr⟩, hb⟩
    have H2 : Hid (Cl (w1.alloc (.cells #[.float .f64 x, .float .f64 y, .float .f64 z] 24)) w2) := hb
    clear hb
    have HN : Hid _ := near_one hr
    have HD : Hid (nearQ (dotR x y z x y z) p1w q40 = true → Dir x y z (sideF z)) := fun h => dir_of h
    generalize nearQ (dotR x y z x y z) p1w q40 = t at HN HD
    have hsz : w.heap.size ≤ w1.heap.size := Nat.le_trans (by simp) H1.out.size
    have HB : Hid (Below w.heap.size w w2) := H1.out.out1.trans (H2.out.out1.mono hsz)
    cases t
    · go_wp2_with fail
      refine Calls.mono (HN.out _) ?_
      rintro e w3 ⟨v, rfl, rfl, hb⟩
      have H3 : Hid (Below w.heap.size w w3) := HB.out.trans (hb.mono HB.out.size)
      clear hb
      go_wp2_with fail
      refine Calls.mono (awake_any _) ?_
      rintro e w4 ⟨v, rfl, rfl, hb⟩
      have H4 : Hid (Below w.heap.size w w4) := H3.out.trans (hb.mono H3.out.size)
      clear hb
      go_wp2_with fail
      go_ret
      exact ⟨_, rfl, rfl, H4.out⟩
    · go_wp2_with fail
      refine Calls.mono (HN.out _) ?_
      rintro e w3 ⟨v, rfl, rfl, hb⟩
      have H3 : Hid (Cl (w1.alloc (.cells #[.float .f64 x, .float .f64 y, .float .f64 z] 24)) w3) := H2.out.call hb
      clear hb
      obtain ⟨y0, y1, y2⟩ := H3.out.three (b := w1.heap.size) (by go_simp; exact rfl) (by go_simp; exact rfl) (by go_simp; exact rfl) (by go_simp; done)
      go_wp2_with fail
      refine Calls.mono (new_any x y z gx gy gz _) ?_
      rintro e w4 ⟨v, rfl, ⟨a0, a1, a2, b0, b1, b2, c0, c1, c2, rfl, h0, h1, h2, k0, k1, k2, -, -, -⟩, hb⟩
      have H4 : Hid (Cl (w1.alloc (.cells #[.float .f64 x, .float .f64 y, .float .f64 z] 24)) w4) := H3.out.call hb
      clear hb y0 y1 y2
      obtain ⟨R1, R2, R3, R4, R5⟩ := right_five (HD.out trivial) h0 h1 h2 k0 k1 k2
      have S1 : Hid _ := R1
      have S2 : Hid _ := R2
      have S3 : Hid _ := R3
      have S4 : Hid _ := R4
      have S5 : Hid _ := R5
      clear R1 R2 R3 R4 R5 h0 h1 h2 k0 k1 k2 HD HN
      have hs1 : w1.heap.size < w4.heap.size := Nat.lt_of_lt_of_le (by simp) H4.out.size
      obtain ⟨y0, y1, y2⟩ := H4.out.three (b := w1.heap.size) (by go_simp; exact rfl) (by go_simp; exact rfl) (by go_simp; exact rfl) (by go_simp; done)
      have HF : Hid (∀ w', Cl (w4.alloc (.cells #[.float .f64 a0, .float .f64 a1, .float .f64 a2, .float .f64 b0, .float .f64 b1, .float .f64 b2, .float .f64 c0, .float .f64 c1, .float .f64 c2] 28)) w' → _) := fun w' h => h.three (b := w4.heap.size) (by go_simp; exact rfl) (by go_simp; exact rfl) (by go_simp; exact rfl) (by go_simp; done)
      have HG : Hid (∀ w', Cl (w4.alloc (.cells #[.float .f64 a0, .float .f64 a1, .float .f64 a2, .float .f64 b0, .float .f64 b1, .float .f64 b2, .float .f64 c0, .float .f64 c1, .float .f64 c2] 28)) w' → _) := fun w' h => h.next3 (b := w4.heap.size) (by go_simp; exact rfl) (by go_simp; exact rfl) (by go_simp; exact rfl) (by go_simp; done)
      have HV : Hid (∀ w', Cl (w4.alloc (.cells #[.float .f64 a0, .float .f64 a1, .float .f64 a2, .float .f64 b0, .float .f64 b1, .float .f64 b2, .float .f64 c0, .float .f64 c1, .float .f64 c2] 28)) w' → _) := fun w' h => h.three (b := w1.heap.size) (by go_simp; exact rfl) (by go_simp; exact rfl) (by go_simp; exact rfl) (by go_simp; done)
      clear y0 y1 y2
      go_wp2_with fail
      refine Calls.mono (awake_any _) ?_
      rintro e w5 ⟨v, rfl, rfl, hb⟩
      have L5 : Hid (Cl (w4.alloc (.cells #[.float .f64 a0, .float .f64 a1, .float .f64 a2, .float .f64 b0, .float .f64 b1, .float .f64 b2, .float .f64 c0, .float .f64 c1, .float .f64 c2] 28)) w5) := hb
      clear hb
      obtain ⟨y0, y1, y2⟩ := HF.out _ L5.out
      obtain ⟨y3, y4, y5⟩ := HG.out _ L5.out
      obtain ⟨y6, y7, y8⟩ := HV.out _ L5.out
      go_wp2_with fail
      refine Calls.mono (rdot_any _ _ _ _ _ _ _) ?_
      rintro e w6 ⟨v, rfl, ⟨s6, rfl, hs6⟩, hb⟩
      have L6 : Hid (Cl (w4.alloc (.cells #[.float .f64 a0, .float .f64 a1, .float .f64 a2, .float .f64 b0, .float .f64 b1, .float .f64 b2, .float .f64 c0, .float .f64 c1, .float .f64 c2] 28)) w6) := L5.out.call hb
      clear hb y0 y1 y2 y3 y4 y5 y6 y7 y8
      go_wp2_with fail
      refine Calls.mono (near_true hs6 S1.out _) ?_
      rintro e w7 ⟨v, rfl, rfl, hb⟩
      have L7 : Hid (Cl (w4.alloc (.cells #[.float .f64 a0, .float .f64 a1, .float .f64 a2, .float .f64 b0, .float .f64 b1, .float .f64 b2, .float .f64 c0, .float .f64 c1, .float .f64 c2] 28)) w7) := L6.out.call hb
      clear hb hs6
      obtain ⟨y0, y1, y2⟩ := HF.out _ L7.out
      obtain ⟨y3, y4, y5⟩ := HG.out _ L7.out
      obtain ⟨y6, y7, y8⟩ := HV.out _ L7.out
      go_wp2_with fail
      refine Calls.mono (rdot_any _ _ _ _ _ _ _) ?_
      rintro e w8 ⟨v, rfl, ⟨s8, rfl, hs8⟩, hb⟩
      have L8 : Hid (Cl (w4.alloc (.cells #[.float .f64 a0, .float .f64 a1, .float .f64 a2, .float .f64 b0, .float .f64 b1, .float .f64 b2, .float .f64 c0, .float .f64 c1, .float .f64 c2] 28)) w8) := L7.out.call hb
      clear hb y0 y1 y2 y3 y4 y5 y6 y7 y8
      go_wp2_with fail
      refine Calls.mono (near_true hs8 S2.out _) ?_
      rintro e w9 ⟨v, rfl, rfl, hb⟩
      have L9 : Hid (Cl (w4.alloc (.cells #[.float .f64 a0, .float .f64 a1, .float .f64 a2, .float .f64 b0, .float .f64 b1, .float .f64 b2, .float .f64 c0, .float .f64 c1, .float .f64 c2] 28)) w9) := L8.out.call hb
      clear hb hs8
      obtain ⟨y0, y1, y2⟩ := HF.out _ L9.out
      obtain ⟨y3, y4, y5⟩ := HG.out _ L9.out
      obtain ⟨y6, y7, y8⟩ := HV.out _ L9.out
      go_wp2_with fail
      refine Calls.mono (rdot_any _ _ _ _ _ _ _) ?_
      rintro e w10 ⟨v, rfl, ⟨s10, rfl, hs10⟩, hb⟩
      have L10 : Hid (Cl (w4.alloc (.cells #[.float .f64 a0, .float .f64 a1, .float .f64 a2, .float .f64 b0, .float .f64 b1, .float .f64 b2, .float .f64 c0, .float .f64 c1, .float .f64 c2] 28)) w10) := L9.out.call hb
      clear hb y0 y1 y2 y3 y4 y5 y6 y7 y8
      go_wp2_with fail
      refine Calls.mono (near_true hs10 S3.out _) ?_
      rintro e w11 ⟨v, rfl, rfl, hb⟩
      have L11 : Hid (Cl (w4.alloc (.cells #[.float .f64 a0, .float .f64 a1, .float .f64 a2, .float .f64 b0, .float .f64 b1, .float .f64 b2, .float .f64 c0, .float .f64 c1, .float .f64 c2] 28)) w11) := L10.out.call hb
      clear hb hs10
      obtain ⟨y0, y1, y2⟩ := HF.out _ L11.out
      obtain ⟨y3, y4, y5⟩ := HG.out _ L11.out
      obtain ⟨y6, y7, y8⟩ := HV.out _ L11.out
      go_wp2_with fail
      refine Calls.mono (rdot_any _ _ _ _ _ _ _) ?_
      rintro e w12 ⟨v, rfl, ⟨s12, rfl, hs12⟩, hb⟩
      have L12 : Hid (Cl (w4.alloc (.cells #[.float .f64 a0, .float .f64 a1, .float .f64 a2, .float .f64 b0, .float .f64 b1, .float .f64 b2, .float .f64 c0, .float .f64 c1, .float .f64 c2] 28)) w12) := L11.out.call hb
      clear hb y0 y1 y2 y3 y4 y5 y6 y7 y8
      go_wp2_with fail
      refine Calls.mono (near_true hs12 S4.out _) ?_
      rintro e w13 ⟨v, rfl, rfl, hb⟩
      have L13 : Hid (Cl (w4.alloc (.cells #[.float .f64 a0, .float .f64 a1, .float .f64 a2, .float .f64 b0, .float .f64 b1, .float .f64 b2, .float .f64 c0, .float .f64 c1, .float .f64 c2] 28)) w13) := L12.out.call hb
      clear hb hs12
      obtain ⟨y0, y1, y2⟩ := HF.out _ L13.out
      obtain ⟨y3, y4, y5⟩ := HG.out _ L13.out
      obtain ⟨y6, y7, y8⟩ := HV.out _ L13.out
      go_wp2_with fail
      refine Calls.mono (rdot_any _ _ _ _ _ _ _) ?_
      rintro e w14 ⟨v, rfl, ⟨s14, rfl, hs14⟩, hb⟩
      have L14 : Hid (Cl (w4.alloc (.cells #[.float .f64 a0, .float .f64 a1, .float .f64 a2, .float .f64 b0, .float .f64 b1, .float .f64 b2, .float .f64 c0, .float .f64 c1, .float .f64 c2] 28)) w14) := L13.out.call hb
      clear hb y0 y1 y2 y3 y4 y5 y6 y7 y8
      go_wp2_with fail
      refine Calls.mono (near_true hs14 S5.out _) ?_
      rintro e w15 ⟨v, rfl, rfl, hb⟩
      have L15 : Hid (Cl (w4.alloc (.cells #[.float .f64 a0, .float .f64 a1, .float .f64 a2, .float .f64 b0, .float .f64 b1, .float .f64 b2, .float .f64 c0, .float .f64 c1, .float .f64 c2] 28)) w15) := L14.out.call hb
      clear hb hs14
      go_wp2_with fail
      go_ret
      have T4 : Below w.heap.size w w4 := H1.out.out1.trans (H4.out.out1.mono hsz)
      exact ⟨_, rfl, rfl, T4.trans (L15.out.out1.mono T4.size)⟩
end Go.Proofs.Ytkcchnepllcghaa
