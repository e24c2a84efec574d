/- errors.is, errors.Is and fault.Is of a chain. -/
import Derived.Test.YtghdiflnkbkgaaaDoorFk
namespace Go.Proofs.YtghdiflnkbkgaaaDoor
open Go.RowKit

/-- Is the code one of the chain? -/
def hasC (b : Option Int) (tc : Int) : List (Int × Int) → Bool
  | [] => match b with
    | none => false
    | some c => c == tc
  | (c, _) :: r => c == tc || hasC b tc r

theorem ne51 (v u : Value) (w : World) : (binOp .eql 25 (.iface 51 v) (.iface 23 u)).run Tryd.prog w = .ok (.bool false) w := run_eql_iface_types 51 23 v u Tryd.underlying25 (by decide) w
theorem ta101y51 (v : Value) (w : World) : (Instr.typeAssert (.iface 51 v) 25 101 true).run Tryd.prog w = .ok (.tuple #[.iface 51 v, .bool true]) w := run_typeAssert_hasB Tryd.underlying101 (by kernel_rfl) v 25 w
theorem ta96n51 (v : Value) (w : World) : (Instr.typeAssert (.iface 51 v) 25 96 true).run Tryd.prog w = .ok (.tuple #[.nilIface, .bool false]) w := run_typeAssert_lacksB Tryd.underlying96 (by kernel_rfl) (by kernel_rfl) v 25 w
theorem ta97y51 (v : Value) (w : World) : (Instr.typeAssert (.iface 51 v) 25 97 true).run Tryd.prog w = .ok (.tuple #[.iface 51 v, .bool true]) w := run_typeAssert_hasB Tryd.underlying97 (by kernel_rfl) v 25 w
theorem m51Is (v : Value) (w : World) : (method 252 51 v "Is").run Tryd.prog w = .ok (87, v) w := by kernel_rfl
theorem m51Unwrap (v : Value) (w : World) : (method 252 51 v "Unwrap").run Tryd.prog w = .ok (88, v) w := by kernel_rfl

set_option maxRecDepth 100000 in
set_option maxHeartbeats 400000 in
theorem is_yes (t : TypeId) (x : Value) (it : Itm) (hit : isItm (.iface t x) it) (d tc : Int) (lb : Nat) (w : World) (hc : (icode it == tc) = true) :
    Calls Tryd.prog 40 #[.iface 51 (.agg #[.iface t x, .int .i64 d, .pointer (some ⟨lb, 0, none⟩)]), .iface 23 (.int .i64 tc), .bool true] w fun e w' => e = .returned (.bool true) ∧ Below w.heap.size w w' := by
  have h0 := sis_any (.iface t x) it hit d tc lb w
  rw [hc] at h0
  have H0 : Hid _ := h0
  clear h0 hc hit
  have h1 := ne51
  have h2 := ta101y51
  have h3 := m51Is
  go_enter Tryd.func40, Tryd.ntmps40
  go_wp2_with fail
  refine wp_loop_rounds 1 ?_
  rw [rounds_succ]
  go_wp2_with (go_at_call 87; refine Calls.mono H0.out ?_; rintro e w1 ⟨rfl, hb⟩; have HB : Hid _ := hb; clear hb)
  go_ret
  exact ⟨rfl, HB.out⟩

set_option maxRecDepth 100000 in
set_option maxHeartbeats 400000 in
theorem is_ern (c d tc : Int) (lb : Nat) (w : World) (hd : 1 ≤ d ∧ d < 65536) (hc : (c == tc) = false) :
    Calls Tryd.prog 40 #[.iface 51 (.agg #[.iface 23 (.int .i64 c), .int .i64 d, .pointer (some ⟨lb, 0, none⟩)]), .iface 23 (.int .i64 tc), .bool true] w fun e w' => e = .returned (.bool false) ∧ Below w.heap.size w w' := by
  have h0 := sis_any (.iface 23 (.int .i64 c)) (.inr c) rfl d tc lb w
  rw [show (icode (.inr c) == tc) = false from hc] at h0
  have H0 : Hid _ := h0
  clear h0 hc
  have h1 := ne51
  have h2 := ta101y51
  have h3 := m51Is
  have h4 := ta96n51
  have h5 := ta97y51
  have h6 := m51Unwrap
  go_enter Tryd.func40, Tryd.ntmps40
  go_wp2_with fail
  refine wp_loop_rounds 1 ?_
  rw [rounds_succ]
  go_wp2_with (first
    | (go_at_call 87; refine Calls.mono H0.out ?_; rintro e w1 ⟨rfl, hb⟩; have HB : Hid _ := hb; clear hb)
    | (go_at_call 88; refine (unw_ern c d lb _ hd).mono ?_; rintro e w2 ⟨rfl, hb⟩; have HB2 : Hid _ := hb; clear hb))
  refine wp_loop_rounds 1 ?_
  rw [rounds_succ]
  go_wp2_with fail
  go_ret
  exact ⟨rfl, HB.out.trans (HB2.out.mono HB.out.size)⟩

set_option maxRecDepth 100000 in
set_option maxHeartbeats 400000 in
theorem is_nil (c l d tc : Int) (lb : Nat) (w : World) (hd : 1 ≤ d ∧ d < 65536) (hc : (c == tc) = false) :
    Calls Tryd.prog 40 #[.iface 51 (.agg #[.iface 43 (.agg #[.int .i64 c, .int .i64 l, .nilIface]), .int .i64 d, .pointer (some ⟨lb, 0, none⟩)]), .iface 23 (.int .i64 tc), .bool true] w fun e w' => e = .returned (.bool false) ∧ Below w.heap.size w w' := by
  have h0 := sis_any (.iface 43 (.agg #[.int .i64 c, .int .i64 l, .nilIface])) (.inl (c, l)) ⟨_, rfl, rfl⟩ d tc lb w
  rw [show (icode (.inl (c, l)) == tc) = false from hc] at h0
  have H0 : Hid _ := h0
  clear h0 hc
  have h1 := ne51
  have h2 := ta101y51
  have h3 := m51Is
  have h4 := ta96n51
  have h5 := ta97y51
  have h6 := m51Unwrap
  go_enter Tryd.func40, Tryd.ntmps40
  go_wp2_with fail
  refine wp_loop_rounds 1 ?_
  rw [rounds_succ]
  go_wp2_with (first
    | (go_at_call 87; refine Calls.mono H0.out ?_; rintro e w1 ⟨rfl, hb⟩; have HB : Hid _ := hb; clear hb)
    | (go_at_call 88; refine (unw_nil c l d lb _ hd).mono ?_; rintro e w2 ⟨rfl, hb⟩; have HB2 : Hid _ := hb; clear hb))
  refine wp_loop_rounds 1 ?_
  rw [rounds_succ]
  go_wp2_with fail
  go_ret
  exact ⟨rfl, HB.out.trans (HB2.out.mono HB.out.size)⟩

set_option maxRecDepth 100000 in
set_option maxHeartbeats 1000000 in
theorem is_more (c l d k tc : Int) (t : TypeId) (x : Value) (lb B : Nat) (w : World) (hd : 1 ≤ d ∧ d < 65535) (hk : 1 ≤ k ∧ k < 2147483648) (hc : (c == tc) = false) (hL : Left w lb k) (hB : B ≤ lb) (res : Bool)
    (ih : ∀ w, Left w lb (k - 1) → Calls Tryd.prog 40 #[.iface 51 (.agg #[.iface t x, .int .i64 (d + 1), .pointer (some ⟨lb, 0, none⟩)]), .iface 23 (.int .i64 tc), .bool true] w fun e w' => e = .returned (.bool res) ∧ Below B w w') :
    Calls Tryd.prog 40 #[.iface 51 (.agg #[.iface 43 (.agg #[.int .i64 c, .int .i64 l, .iface t x]), .int .i64 d, .pointer (some ⟨lb, 0, none⟩)]), .iface 23 (.int .i64 tc), .bool true] w fun e w' => e = .returned (.bool res) ∧ Below B w w' := by
  have h0 := sis_any (.iface 43 (.agg #[.int .i64 c, .int .i64 l, .iface t x])) (.inl (c, l)) ⟨_, rfl, rfl⟩ d tc lb w
  rw [show (icode (.inl (c, l)) == tc) = false from hc] at h0
  have H0 : Hid _ := h0
  have HL : Hid _ := hL
  have IH : Hid _ := ih
  clear h0 hc hL ih
  have h1 := ne51
  have h2 := ta101y51
  have h3 := m51Is
  have h4 := ta96n51
  have h5 := ta97y51
  have h6 := m51Unwrap
  cases res
  all_goals
    go_enter Tryd.func40, Tryd.ntmps40
    go_wp2_with fail
    refine wp_loop_rounds 1 ?_
    rw [rounds_succ]
    go_wp2_with (first
      | (go_at_call 87; refine Calls.mono H0.out ?_; rintro e w1 ⟨rfl, hb⟩; have HB : Hid _ := hb; clear hb)
      | (go_at_call 88; refine (unw_one c l d k t x lb _ ⟨hd.1, by omega⟩ hk (HL.out.below HB.out)).mono ?_; rintro e w2 ⟨g, gc, rfl, hg1, hg2, hg3, hb⟩; have HB2 : Hid _ := hb; clear hb))
    have hL2 : Left w2 lb (k - 1) := (((HL.out.below HB.out).set (k' := k - 1)).below (by simpa using HB2.out))
    have h3' := IH.out w2 hL2
    have H3 : Hid _ := h3'
    have hw : B ≤ w.heap.size := by have := HL.out.lt; omega
    have hB02 : Below B w w2 := ((HB.out.mono hw).setCell (p := ⟨lb, 0, none⟩) hB (.int .i64 (k - 1))).trans (HB2.out.mono (by have := HB.out.size; omega))
    have HB02 : Hid _ := hB02
    clear hL2 h3' hB02 HB2 HB IH H0 HL
    refine wp_loop_rounds 2 ?_
    rw [rounds_succ]
    go_wp2_with (go_at_call 40; refine Calls.mono H3.out ?_; rintro e w3 ⟨rfl, hb3⟩; have HB3 : Hid _ := hb3; clear hb3 H3)
  · rw [rounds_succ]
    go_wp2_with fail
    go_ret
    exact ⟨rfl, HB02.out.trans HB3.out⟩
  · go_ret
    exact ⟨rfl, HB02.out.trans HB3.out⟩

theorem is_chn (b : Option Int) (tc : Int) (lb B : Nat) (hB : B ≤ lb) : ∀ (r : List (Int × Int)) (t : TypeId) (x : Value) (d k : Int) (w : World), chn b r = .iface t x → 1 ≤ d → d + r.length < 65535 → (r.length : Int) < k → k < 2147483648 → Left w lb k →
    Calls Tryd.prog 40 #[.iface 51 (.agg #[.iface t x, .int .i64 d, .pointer (some ⟨lb, 0, none⟩)]), .iface 23 (.int .i64 tc), .bool true] w fun e w' => e = .returned (.bool (hasC b tc r)) ∧ Below B w w' := by
  intro r
  induction r with
  | nil =>
    intro t x d k w hx h1 h2 h3 h4 hL
    have hw : B ≤ w.heap.size := by have := hL.lt; omega
    simp only [List.length_nil] at h2
    cases b with
    | none => simp [chn] at hx
    | some c =>
      simp only [chn, Value.iface.injEq] at hx
      obtain ⟨rfl, rfl⟩ := hx
      by_cases hc : (c == tc) = true
      · simp only [hasC, hc]
        exact (is_yes _ _ (.inr c) rfl d tc lb w hc).mono fun e w' h => ⟨h.1, h.2.mono hw⟩
      · have hc' : (c == tc) = false := by simpa using hc
        simp only [hasC, hc']
        exact (is_ern c d tc lb w ⟨h1, by omega⟩ hc').mono fun e w' h => ⟨h.1, h.2.mono hw⟩
  | cons p r ih =>
    obtain ⟨c, l⟩ := p
    intro t x d k w hx h1 h2 h3 h4 hL
    have hw : B ≤ w.heap.size := by have := hL.lt; omega
    simp only [List.length_cons] at h2 h3
    simp only [chn, Value.iface.injEq] at hx
    obtain ⟨rfl, rfl⟩ := hx
    by_cases hc : (c == tc) = true
    · simp only [hasC, hc, Bool.true_or]
      exact (is_yes _ _ (.inl (c, l)) ⟨_, chn_oneCell b r, rfl⟩ d tc lb w hc).mono fun e w' h => ⟨h.1, h.2.mono hw⟩
    · have hc' : (c == tc) = false := by simpa using hc
      simp only [hasC, hc', Bool.false_or]
      rcases chn_iface b r with hx | ⟨t, x, hx⟩
      · have hr : hasC b tc r = false := by
          cases r with
          | nil => cases b with
            | none => rfl
            | some c => simp [chn] at hx
          | cons p r => obtain ⟨_, _⟩ := p; simp [chn] at hx
        rw [hr, hx]
        exact (is_nil c l d tc lb w ⟨h1, by omega⟩ hc').mono fun e w' h => ⟨h.1, h.2.mono hw⟩
      · rw [hx]
        exact is_more c l d k tc t x lb B w ⟨h1, by omega⟩ ⟨by omega, h4⟩ hc' hL hB _ (fun w hL' => ih t x (d + 1) (k - 1) w hx (by omega) (by omega) (by omega) (by omega) hL')

end Go.Proofs.YtghdiflnkbkgaaaDoor
