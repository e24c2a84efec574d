/- each, with function 24: the whole way through a chain. -/
import Derived.Test.YtghdiflnkbkgaaaDoorFf
namespace Go.Proofs.YtghdiflnkbkgaaaDoor
open Go.RowKit

section
variable {σ : Type} (step : σ → Itm → Int → σ × Bool) (Inv : σ → Int → World → Prop) (lb : Nat) (cap : Value)

set_option maxRecDepth 100000 in
set_option maxHeartbeats 400000 in
theorem each24_nil (K : Keeps σ lb Inv) (s : σ) (d : Int) (w : World) (hI : Inv s d w) :
    Calls Tryd.prog 23 #[.agg #[.nilIface, .int .i64 d, .pointer (some ⟨lb, 0, none⟩)], .func (Fn.func 24) #[] #[cap]] w fun e w' => e = .returned (.bool true) ∧ (∃ d', Inv s d' w') ∧ w.heap.size ≤ w'.heap.size := by
  have HI : Hid (Inv s d w) := hI
  clear hI
  go_enter Tryd.func23, Tryd.ntmps23
  go_wp2_with fail
  go_ret
  exact ⟨rfl, ⟨_, K.grow _ _ _ _ HI.out (box_below _ _)⟩, by simp⟩

set_option maxRecDepth 100000 in
set_option maxHeartbeats 400000 in
theorem each24_no (ht : Tells step Inv lb cap 24) (s : σ) (t : TypeId) (x : Value) (it : Itm) (d k : Int) (w : World) (hit : isItm (.iface t x) it) (h1 : 1 ≤ d) (h2 : d < 65536) (hI : Inv s d w) (hL : Left w lb k)
    (hs : (step s it d).2 = false) :
    Calls Tryd.prog 23 #[.agg #[.iface t x, .int .i64 d, .pointer (some ⟨lb, 0, none⟩)], .func (Fn.func 24) #[] #[cap]] w fun e w' => e = .returned (.bool false) ∧ (∃ d', Inv (step s it d).1 d' w') ∧ w.heap.size ≤ w'.heap.size := by
  have hc := ht s (.iface t x) it d k w (.cells #[.iface t x, .int .i64 d, .pointer (some ⟨lb, 0, none⟩)] 51) hit h1 h2 hI hL
  rw [hs] at hc
  have HC : Hid _ := hc
  clear hc ht hs hI hL hit
  go_enter Tryd.func23, Tryd.ntmps23
  go_wp2_with (go_at_call 24; refine Calls.mono HC.out ?_; rintro e w1 ⟨rfl, hI1, hL1, hz, hblk⟩; have HI : Hid (Inv _ _ w1) := hI1; clear hI1 hblk HC)
  go_ret
  exact ⟨rfl, ⟨_, HI.out⟩, by omega⟩

set_option maxRecDepth 100000 in
set_option maxHeartbeats 400000 in
theorem each24_ern (K : Keeps σ lb Inv) (ht : Tells step Inv lb cap 24) (s : σ) (c : Int) (d k : Int) (w : World) (h1 : 1 ≤ d) (h2 : d < 65536) (hI : Inv s d w) (hL : Left w lb k)
    (hs : (step s (.inr c) d).2 = true) :
    Calls Tryd.prog 23 #[.agg #[.iface 23 (.int .i64 c), .int .i64 d, .pointer (some ⟨lb, 0, none⟩)], .func (Fn.func 24) #[] #[cap]] w fun e w' => e = .returned (.bool true) ∧ (∃ d', Inv (step s (.inr c) d).1 d' w') ∧ w.heap.size ≤ w'.heap.size := by
  have hc := ht s (.iface 23 (.int .i64 c)) (.inr c) d k w (.cells #[.iface 23 (.int .i64 c), .int .i64 d, .pointer (some ⟨lb, 0, none⟩)] 51) rfl h1 h2 hI hL
  rw [hs] at hc
  have HC : Hid _ := hc
  clear hc ht hs hI hL
  go_enter Tryd.func23, Tryd.ntmps23
  go_wp2_with (first
    | (go_at_call 24; refine Calls.mono HC.out ?_; rintro e w1 ⟨rfl, hI1, hL1, hz, hblk⟩; have HI : Hid (Inv _ _ w1) := hI1;
       have hb0 := cell_at (j := 0) hblk rfl; have hb1 := cell_at (j := 1) hblk rfl; have hb2 := cell_at (j := 2) hblk rfl; clear hI1 hblk HC)
    | (go_at_call 38; refine (within_ern c d lb _ ⟨h1, h2⟩).mono ?_; rintro e w2 ⟨rfl, hb⟩; have HB : Hid (Below _ _ w2) := hb; clear hb))
  refine wp_loop_rounds 1 ?_
  rw [rounds_succ]; go_wp2_with fail
  go_ret
  exact ⟨rfl, ⟨_, K.grow _ _ _ _ HI.out HB.out⟩, by have := HB.out.size; omega⟩

set_option maxRecDepth 100000 in
set_option maxHeartbeats 400000 in
theorem each24_end (K : Keeps σ lb Inv) (ht : Tells step Inv lb cap 24) (s : σ) (c l : Int) (d k : Int) (w : World) (h1 : 1 ≤ d) (h2 : d < 65536) (hI : Inv s d w) (hL : Left w lb k)
    (hs : (step s (.inl (c, l)) d).2 = true) :
    Calls Tryd.prog 23 #[.agg #[.iface 43 (.agg #[.int .i64 c, .int .i64 l, .nilIface]), .int .i64 d, .pointer (some ⟨lb, 0, none⟩)], .func (Fn.func 24) #[] #[cap]] w fun e w' => e = .returned (.bool true) ∧ (∃ d', Inv (step s (.inl (c, l)) d).1 d' w') ∧ w.heap.size ≤ w'.heap.size := by
  have hc := ht s (.iface 43 (.agg #[.int .i64 c, .int .i64 l, .nilIface])) (.inl (c, l)) d k w (.cells #[.iface 43 (.agg #[.int .i64 c, .int .i64 l, .nilIface]), .int .i64 d, .pointer (some ⟨lb, 0, none⟩)] 51) ⟨_, rfl, rfl⟩ h1 h2 hI hL
  rw [hs] at hc
  have HC : Hid _ := hc
  clear hc ht hs hI hL
  go_enter Tryd.func23, Tryd.ntmps23
  go_wp2_with (first
    | (go_at_call 24; refine Calls.mono HC.out ?_; rintro e w1 ⟨rfl, hI1, hL1, hz, hblk⟩; have HI : Hid (Inv _ _ w1) := hI1;
       have hb0 := cell_at (j := 0) hblk rfl; have hb1 := cell_at (j := 1) hblk rfl; have hb2 := cell_at (j := 2) hblk rfl; clear hI1 hblk HC)
    | (go_at_call 38; refine (within_nil c l d lb _ ⟨h1, h2⟩).mono ?_; rintro e w2 ⟨rfl, hb⟩; have HB : Hid (Below _ _ w2) := hb; clear hb))
  refine wp_loop_rounds 1 ?_
  rw [rounds_succ]; go_wp2_with fail
  go_ret
  exact ⟨rfl, ⟨_, K.grow _ _ _ _ HI.out HB.out⟩, by have := HB.out.size; omega⟩

set_option maxRecDepth 100000 in
set_option maxHeartbeats 1000000 in
theorem each24_more (K : Keeps σ lb Inv) (ht : Tells step Inv lb cap 24) (s : σ) (c l : Int) (t : TypeId) (x : Value) (d k : Int) (w : World) (h1 : 1 ≤ d) (h2 : d < 65535) (hk1 : 1 ≤ k) (hk2 : k < 2147483648) (hI : Inv s d w) (hL : Left w lb k)
    (hs : (step s (.inl (c, l)) d).2 = true) (rest : σ × Bool)
    (ih : ∀ w, Inv (step s (.inl (c, l)) d).1 (d + 1) w → Left w lb (k - 1) → Calls Tryd.prog 23 #[.agg #[.iface t x, .int .i64 (d + 1), .pointer (some ⟨lb, 0, none⟩)], .func (Fn.func 24) #[] #[cap]] w fun e w' => e = .returned (.bool rest.2) ∧ (∃ d', Inv rest.1 d' w') ∧ w.heap.size ≤ w'.heap.size) :
    Calls Tryd.prog 23 #[.agg #[.iface 43 (.agg #[.int .i64 c, .int .i64 l, .iface t x]), .int .i64 d, .pointer (some ⟨lb, 0, none⟩)], .func (Fn.func 24) #[] #[cap]] w fun e w' => e = .returned (.bool rest.2) ∧ (∃ d', Inv rest.1 d' w') ∧ w.heap.size ≤ w'.heap.size := by
  have hc := ht s (.iface 43 (.agg #[.int .i64 c, .int .i64 l, .iface t x])) (.inl (c, l)) d k w (.cells #[.iface 43 (.agg #[.int .i64 c, .int .i64 l, .iface t x]), .int .i64 d, .pointer (some ⟨lb, 0, none⟩)] 51) ⟨_, rfl, rfl⟩ h1 (by omega) hI hL
  rw [hs] at hc
  have HC : Hid _ := hc
  have IH : Hid _ := ih
  clear hc ht hs hI hL ih
  obtain ⟨rest1, rest2⟩ := rest
  cases rest2
  all_goals
    go_enter Tryd.func23, Tryd.ntmps23
    go_wp2_with (first
      | (go_at_call 24; refine Calls.mono HC.out ?_; rintro e w1 ⟨rfl, hI1, hL1, hz, hblk⟩; have HI : Hid (Inv _ _ w1) := hI1; have HL : Hid (Left w1 lb k) := hL1;
         have hb0 := cell_at (j := 0) hblk rfl; have hb1 := cell_at (j := 1) hblk rfl; have hb2 := cell_at (j := 2) hblk rfl; clear hI1 hL1 hblk HC)
      | (go_at_call 38; refine (within_one c l d k t x lb _ ⟨h1, by omega⟩ ⟨hk1, hk2⟩ HL.out.lt HL.out.cell HL.out.frozen).mono ?_; rintro e w2 ⟨g, gc, rfl, hg1, hg2, hg3, hg4, hg5, hb⟩; have HB : Hid (Below _ _ w2) := hb; clear hb))
    refine wp_loop_rounds 2 ?_
    rw [rounds_succ]
    have hI2 := K.grow _ _ _ _ (K.left _ _ _ (k - 1) HI.out) (by simpa using HB.out)
    have hL2 := (HL.out.set (k' := k - 1)).below (by simpa using HB.out)
    have H3 : Hid _ := IH.out _ (K.grow _ _ _ _ hI2 (box_below w2 (.cells #[.iface t x, .int .i64 (d + 1), .pointer (some ⟨lb, 0, none⟩)] 51))) (hL2.below (box_below w2 _))
    have hw12 : w1.heap.size ≤ w2.heap.size := by have := HB.out.size; simpa using this
    clear hI2 hL2 HI HL HB IH hb0 hb1 hb2
    go_wp2_with (go_at_call 23; refine Calls.mono H3.out ?_; rintro e w3 ⟨rfl, hI3, hz3⟩; have HI3 : Hid _ := hI3; clear hI3 H3)
  · go_ret
    exact ⟨rfl, HI3.out, by simp at hz3; omega⟩
  · rw [rounds_succ]
    go_wp2_with fail
    go_ret
    exact ⟨rfl, HI3.out, by simp at hz3; omega⟩

theorem each24_any (K : Keeps σ lb Inv) (ht : Tells step Inv lb cap 24) (b : Option Int) : ∀ (r : List (Int × Int)) (s : σ) (d k : Int) (w : World), 1 ≤ d → d + r.length < 65535 → (r.length : Int) < k → k < 2147483648 → Inv s d w → Left w lb k →
    Calls Tryd.prog 23 #[.agg #[chn b r, .int .i64 d, .pointer (some ⟨lb, 0, none⟩)], .func (Fn.func 24) #[] #[cap]] w fun e w' => e = .returned (.bool (goes step b s r d).2) ∧ (∃ d', Inv (goes step b s r d).1 d' w') ∧ w.heap.size ≤ w'.heap.size := by
  intro r
  induction r with
  | nil =>
    intro s d k w h1 h2 h3 h4 hI hL
    simp only [List.length_nil] at h2
    cases b with
    | none => exact each24_nil Inv lb cap K s d w hI
    | some c =>
      simp only [chn, goes]
      by_cases hs : (step s (.inr c) d).2 = true
      · rw [hs]; exact each24_ern step Inv lb cap K ht s c d k w h1 (by omega) hI hL hs
      · have hs' : (step s (.inr c) d).2 = false := by simpa using hs
        rw [hs']; exact each24_no step Inv lb cap ht s _ _ (.inr c) d k w rfl h1 (by omega) hI hL hs'
  | cons p r ih =>
    obtain ⟨c, l⟩ := p
    intro s d k w h1 h2 h3 h4 hI hL
    simp only [List.length_cons] at h2 h3
    by_cases hs : (step s (.inl (c, l)) d).2 = true
    · rw [goes, if_pos hs]
      have ih' := fun w h h' => ih (step s (.inl (c, l)) d).1 (d + 1) (k - 1) w (by omega) (by omega) (by omega) (by omega) h h'
      rcases chn_iface b r with hx | ⟨t, x, hx⟩
      · have hr : goes step b (step s (.inl (c, l)) d).1 r (d + 1) = ((step s (.inl (c, l)) d).1, true) := by
          cases r with
          | nil => cases b with
            | none => rfl
            | some c => simp [chn] at hx
          | cons p r => obtain ⟨_, _⟩ := p; simp [chn] at hx
        rw [hr, chn, hx]
        exact each24_end step Inv lb cap K ht s c l d k w h1 (by omega) hI hL hs
      · rw [hx] at ih'
        rw [chn, hx]
        exact each24_more step Inv lb cap K ht s c l t x d k w h1 (by omega) (by omega) h4 hI hL hs _ ih'
    · have hs' : (step s (.inl (c, l)) d).2 = false := by simpa using hs
      rw [goes, if_neg hs]
      exact each24_no step Inv lb cap ht s _ _ (.inl (c, l)) d k w ⟨_, chn_oneCell b r, rfl⟩ h1 (by omega) hI hL hs'

end
end Go.Proofs.YtghdiflnkbkgaaaDoor
