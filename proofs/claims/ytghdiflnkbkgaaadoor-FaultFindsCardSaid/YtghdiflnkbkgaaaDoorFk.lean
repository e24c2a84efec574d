/- The methods of a sight that errors.Is asks: Is and Unwrap. -/
import Derived.Test.YtghdiflnkbkgaaaDoorFj
namespace Go.Proofs.YtghdiflnkbkgaaaDoor
open Go.RowKit

/-- The code that an item is. -/
def icode : Itm → Int
  | .inl (c, _) => c
  | .inr c => c

theorem Tryd.comp23 : (Tryd.prog.info? 23).map (·.comparable) = some true := by kernel_rfl

/-- Two codes, each as an error, are the same if their numbers are. -/
theorem eq23 (a b : Int) (w : World) : (binOp .eql 25 (.iface 23 (.int .i64 a)) (.iface 23 (.int .i64 b))).run Tryd.prog w = .ok (.bool (a == b)) w := by
  obtain ⟨i, hi, hc⟩ := Option.map_eq_some_iff.1 Tryd.comp23
  have deep : ∀ d : Nat, (Op.equalIn (d + 2) 25 (.iface 23 (.int .i64 a)) (.iface 23 (.int .i64 b))).run Tryd.prog w = .ok (a == b) w := fun d => by
    simp [Op.equalIn, run_underlying Tryd.underlying25, run_underlying Tryd.underlying23, typeInfo, hi, hc]
  simp only [binOp]
  simp [Op.equal, Op.maxDepth, deep 9998]

set_option maxRecDepth 100000 in
set_option maxHeartbeats 400000 in
theorem fis_any (c l tc : Int) (x : Value) (hx : x.oneCell' = true) (w : World) :
    Calls Tryd.prog 20 #[.agg #[.int .i64 c, .int .i64 l, x], .iface 23 (.int .i64 tc)] w fun e w' => e = .returned (.bool (tc == c)) ∧ Below w.heap.size w w' := by
  have hs : ∀ a m w, (store a x m).run Tryd.prog w = stored Tryd.prog w a x m := fun a m w => run_store _ w a x m hx
  go_enter Tryd.func20, Tryd.ntmps20
  go_wp2_with (go_at_call 29; refine (codeItself_ern tc _).mono ?_; rintro e w1 ⟨rfl, rfl⟩)
  go_ret
  exact ⟨rfl, box_below _ _⟩

set_option maxRecDepth 100000 in
set_option maxHeartbeats 400000 in
theorem sis_any (v : Value) (it : Itm) (hit : isItm v it) (d tc : Int) (lb : Nat) (w : World) :
    Calls Tryd.prog 87 #[.agg #[v, .int .i64 d, .pointer (some ⟨lb, 0, none⟩)], .iface 23 (.int .i64 tc)] w fun e w' => e = .returned (.bool (icode it == tc)) ∧ Below w.heap.size w w' := by
  cases it with
  | inl q =>
    obtain ⟨c, l⟩ := q
    obtain ⟨x, hx, rfl⟩ := hit
    have hs : ∀ a m w, (store a x m).run Tryd.prog w = stored Tryd.prog w a x m := fun a m w => run_store _ w a x m hx
    go_enter Tryd.func87, Tryd.ntmps87
    go_wp2_with (first
      | (go_at_call 25; refine (faultOf_flt c l x _ hx).mono ?_; rintro e w1 ⟨rfl, hb⟩; have HB : Hid _ := hb; clear hb)
      | (go_at_call 20; refine (fis_any c l tc x hx _).mono ?_; rintro e w2 ⟨rfl, hb⟩; have HB2 : Hid _ := hb; clear hb))
    go_ret
    have hz := HB.out.size
    exact ⟨by simp [icode, Bool.beq_comm], (((box_below _ _).trans (HB.out.mono (by simp))).alloc (by simp at hz; omega) _).trans (HB2.out.mono (by simp at hz ⊢; omega))⟩
  | inr c =>
    obtain rfl := hit
    have h1 := eq23
    go_enter Tryd.func87, Tryd.ntmps87
    go_wp2_with (first
      | (go_at_call 25; refine (faultOf_ern c _).mono ?_; rintro e w1 ⟨rfl, hb⟩;
         have hz : w.heap.size + 1 ≤ w1.heap.size := (by have := hb.size; simpa using this); have hlt2 : w.heap.size < w1.heap.size := (by omega);
         have hx0 : w1.cell? ⟨w.heap.size, 0, none⟩ = some (.iface 23 (.int .i64 c)) := (hb.cell (p := ⟨w.heap.size, 0, none⟩) (by simp)).trans (cell_new rfl rfl);
         have HB : Hid _ := hb; clear hb)
      | (go_at_call 29; refine (codeItself_ern c _).mono ?_; rintro e w2 ⟨rfl, rfl⟩))
    go_ret
    exact ⟨rfl, ((box_below _ _).trans (HB.out.mono (by simp))).alloc (by omega) _⟩

set_option maxRecDepth 100000 in
set_option maxHeartbeats 400000 in
theorem unw_ern (c d : Int) (lb : Nat) (w : World) (hd : 1 ≤ d ∧ d < 65536) :
    Calls Tryd.prog 88 #[.agg #[.iface 23 (.int .i64 c), .int .i64 d, .pointer (some ⟨lb, 0, none⟩)]] w fun e w' => e = .returned (.slice none 0 0) ∧ Below w.heap.size w w' := by
  go_enter Tryd.func88, Tryd.ntmps88
  go_wp2_with (go_at_call 38; refine (within_ern c d lb _ hd).mono ?_; rintro e w1 ⟨rfl, hb⟩; have HB : Hid _ := hb; clear hb)
  refine wp_loop_rounds 1 ?_
  rw [rounds_succ]; go_wp2
  go_ret
  exact ⟨rfl, (box_below _ _).trans (HB.out.mono (by simp))⟩

set_option maxRecDepth 100000 in
set_option maxHeartbeats 400000 in
theorem unw_nil (c l d : Int) (lb : Nat) (w : World) (hd : 1 ≤ d ∧ d < 65536) :
    Calls Tryd.prog 88 #[.agg #[.iface 43 (.agg #[.int .i64 c, .int .i64 l, .nilIface]), .int .i64 d, .pointer (some ⟨lb, 0, none⟩)]] w fun e w' => e = .returned (.slice none 0 0) ∧ Below w.heap.size w w' := by
  go_enter Tryd.func88, Tryd.ntmps88
  go_wp2_with (go_at_call 38; refine (within_nil c l d lb _ hd).mono ?_; rintro e w1 ⟨rfl, hb⟩; have HB : Hid _ := hb; clear hb)
  refine wp_loop_rounds 1 ?_
  rw [rounds_succ]; go_wp2
  go_ret
  exact ⟨rfl, (box_below _ _).trans (HB.out.mono (by simp))⟩

set_option maxRecDepth 100000 in
set_option maxHeartbeats 1000000 in
theorem unw_one (c l d k : Int) (t : TypeId) (x : Value) (lb : Nat) (w : World) (hd : 1 ≤ d ∧ d < 65536) (hk : 1 ≤ k ∧ k < 2147483648) (hL : Left w lb k) :
    Calls Tryd.prog 88 #[.agg #[.iface 43 (.agg #[.int .i64 c, .int .i64 l, .iface t x]), .int .i64 d, .pointer (some ⟨lb, 0, none⟩)]] w fun e w' =>
      ∃ g cap, e = .returned (.slice (some ⟨g, 0, none⟩) 1 cap) ∧ w.heap.size ≤ g ∧ g < w'.heap.size ∧ w'.cell? ⟨g, 0, none⟩ = some (.iface 51 (.agg #[.iface t x, .int .i64 (d + 1), .pointer (some ⟨lb, 0, none⟩)])) ∧
        Below w.heap.size (w.setCell ⟨lb, 0, none⟩ (.int .i64 (k - 1))) w' := by
  obtain ⟨i0, hi, hz0, hz1, hz2⟩ := info_parts Tryd.info25
  have hL1 := hL.below (box_below w (.cells #[.iface 43 (.agg #[.int .i64 c, .int .i64 l, .iface t x]), .int .i64 d, .pointer (some ⟨lb, 0, none⟩)] 51))
  have HL : Hid _ := hL1
  have HL0 : Hid _ := hL
  clear hL1 hL
  go_enter Tryd.func88, Tryd.ntmps88
  go_wp2_with (go_at_call 38; refine (within_one c l d k t x lb _ hd hk HL.out.lt HL.out.cell HL.out.frozen).mono ?_; rintro e w1 ⟨g, gc, rfl, hg1, hg2, hg3, hg4, hg5, hb⟩; have HB : Hid _ := hb; clear hb)
  refine wp_loop_rounds 2 ?_
  rw [rounds_succ]
  go_wp2_with (at_builtin; refine wpList_append_own _ rfl _ _ 98 rfl w.heap.size 25 i0 .nilIface 1 16 Tryd.underlying98 hi hz0 hz1 hz2 rfl (by decide) _ 0 [] rfl ?c0 ⟨w1.heap.size + 1, 0, none⟩ 1 1 [.iface 51 (.agg #[.iface t x, .int .i64 (d + 1), .pointer (some ⟨lb, 0, none⟩)])] rfl rfl ?c1 ?c2 ?c3 ?c4 ?c5 ?_)
  case c0 => exact World.ownsRow_nil _ _ _ _
  case c1 =>
    intro j u hj
    match j, hj with
    | 0, hj => simp at hj; subst hj; exact cell_new (by simp) rfl
  case c2 => intro u hu; simp at hu; subst hu; rfl
  case c3 => unfold maxLen; omega
  case c4 => omega
  case c5 => simp at hg1 ⊢; omega
  intro v' w2 hown hgrow _
  obtain ⟨g', cap', rfl, hg1', hg2', hgc'⟩ := owns_one hown
  have hgc0 := hgc' 0 _ rfl
  have HG : Hid _ := hgrow
  clear hgc' hown hgrow hg3 hg4 hg5
  go_wp2_with fail
  rw [rounds_succ]; go_wp2_with fail
  go_ret
  refine ⟨g', cap', rfl, hg1', hg2', hgc0, ?_⟩
  simp at hg1
  have h1 := below_setCell_both (box_below w (.cells #[.iface 43 (.agg #[.int .i64 c, .int .i64 l, .iface t x]), .int .i64 d, .pointer (some ⟨lb, 0, none⟩)] 51)) ⟨lb, 0, none⟩ (.int .i64 (k - 1))
  have h2 := h1.trans (HB.out.mono (by simp))
  exact ((h2.alloc (by omega) _).alloc (by simp; omega) _).grown HG.out (by simp; omega) (by simp [Value.ownBlock])
end Go.Proofs.YtghdiflnkbkgaaaDoor
