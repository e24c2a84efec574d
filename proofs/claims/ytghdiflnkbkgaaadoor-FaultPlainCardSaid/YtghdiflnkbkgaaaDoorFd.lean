/- within: the sights of what an error wraps. -/
import Derived.Test.YtghdiflnkbkgaaaDoorFc
namespace Go.Proofs.YtghdiflnkbkgaaaDoor
open Go.RowKit

theorem Tryd.info51 : (Tryd.prog.info? 51).map (fun i => (i.zero, i.size, i.bytes)) = some (some (.agg #[.nilIface, .int .i64 0, .pointer none]), 3, 32) := by kernel_rfl

/-- A sight: an error, how deep it is, where the count of those that may still be looked at lies. -/
abbrev sgt (v : Value) (d : Int) (lb : Nat) : Value := .agg #[v, .int .i64 d, .pointer (some ⟨lb, 0, none⟩)]

/-- A cell of the block that was laid last. -/
theorem cell_new {w : World} {n j : Nat} {cs : Array Value} {t : TypeId} {v : Value} (h : w.heap.size = n) (hv : cs[j]? = some v) : (w.alloc (.cells cs t)).cell? ⟨n, j, none⟩ = some v := by
  subst h
  rw [cell_of_row (w.alloc (.cells cs t)) w.heap.size j cs t (0, 0) (heap_alloc_new w _)]; exact hv

theorem below_setCell_both {n : Nat} {a b : World} (h : Below n a b) (p : Addr) (v : Value) : Below n (a.setCell p v) (b.setCell p v) := by
  refine ⟨h.os, h.tape, h.output, by simpa [World.setCell] using h.size, fun k hk => ?_⟩
  simp only [World.setCell, Array.getElem?_modify]
  rw [h.block k hk]

set_option maxRecDepth 100000 in
set_option maxHeartbeats 400000 in
theorem within_ern (c d : Int) (lb : Nat) (w : World) (hd : 1 ≤ d ∧ d < 65536) :
    Calls Tryd.prog 38 #[.agg #[.iface 23 (.int .i64 c), .int .i64 d, .pointer (some ⟨lb, 0, none⟩)]] w fun e w' => e = .returned (.slice none 0 0) ∧ Below w.heap.size w w' := by
  obtain ⟨hd1, hd2⟩ := hd
  go_enter Tryd.func38, Tryd.ntmps38
  go_wp2_with (first
    | (go_at_call 48; refine (wrapped_ern c _).mono ?_; rintro e w1 ⟨rfl, hb⟩; have HB : Hid (Below _ _ w1) := hb; clear hb)
    | go_in)
  refine wp_loop_rounds 1 ?_
  rw [rounds_succ]; go_wp2
  go_ret
  exact ⟨rfl, ((Below.refl _ _).alloc (Nat.le_refl _) _).trans (HB.out.mono (by simp))⟩

set_option maxRecDepth 100000 in
set_option maxHeartbeats 400000 in
theorem within_nil (c l d : Int) (lb : Nat) (w : World) (hd : 1 ≤ d ∧ d < 65536) :
    Calls Tryd.prog 38 #[.agg #[.iface 43 (.agg #[.int .i64 c, .int .i64 l, .nilIface]), .int .i64 d, .pointer (some ⟨lb, 0, none⟩)]] w fun e w' => e = .returned (.slice none 0 0) ∧ Below w.heap.size w w' := by
  obtain ⟨hd1, hd2⟩ := hd
  go_enter Tryd.func38, Tryd.ntmps38
  go_wp2_with (first
    | (go_at_call 48; refine (wrapped_nil c l _).mono ?_; rintro e w1 ⟨rfl, hb⟩; have HB : Hid (Below _ _ w1) := hb; clear hb)
    | go_in)
  refine wp_loop_rounds 1 ?_
  rw [rounds_succ]; go_wp2
  go_ret
  exact ⟨rfl, ((Below.refl _ _).alloc (Nat.le_refl _) _).trans (HB.out.mono (by simp))⟩

set_option maxRecDepth 100000 in
set_option maxHeartbeats 1000000 in
theorem within_one (c l d k : Int) (t : TypeId) (x : Value) (lb : Nat) (w : World) (hd : 1 ≤ d ∧ d < 65536) (hk : 1 ≤ k ∧ k < 2147483648)
    (hlb : lb < w.heap.size) (hl : w.cell? ⟨lb, 0, none⟩ = some (.int .i64 k)) (hlf : w.frozen? ⟨lb, 0, none⟩ = false) :
    Calls Tryd.prog 38 #[.agg #[.iface 43 (.agg #[.int .i64 c, .int .i64 l, .iface t x]), .int .i64 d, .pointer (some ⟨lb, 0, none⟩)]] w fun e w' =>
      ∃ g cap, e = .returned (.slice (some ⟨g, 0, none⟩) 1 cap) ∧ w.heap.size ≤ g ∧ g < w'.heap.size ∧ w'.cell? ⟨g, 0, none⟩ = some (.iface t x) ∧ w'.cell? ⟨g, 1, none⟩ = some (.int .i64 (d + 1)) ∧
        w'.cell? ⟨g, 2, none⟩ = some (.pointer (some ⟨lb, 0, none⟩)) ∧ Below w.heap.size (w.setCell ⟨lb, 0, none⟩ (.int .i64 (k - 1))) w' := by
  obtain ⟨hd1, hd2⟩ := hd
  obtain ⟨hk1, hk2⟩ := hk
  obtain ⟨i0, hi, hz0, hz1, hz2⟩ := info_parts Tryd.info51
  go_enter Tryd.func38, Tryd.ntmps38
  go_wp2_with (first
    | (go_at_call 48; refine (wrapped_one c l t x _).mono ?_; rintro e w1 ⟨g, cap, rfl, hg1, hg2, hgc, hb⟩;
       have hc0 : w1.cell? ⟨w.heap.size, 0, none⟩ = some (.iface 43 (.agg #[.int .i64 c, .int .i64 l, .iface t x])) := (hb.cell (p := ⟨w.heap.size, 0, none⟩) (by simp)).trans (by simp [go_sem]);
       have hc1 : w1.cell? ⟨w.heap.size, 1, none⟩ = some (.int .i64 d) := (hb.cell (p := ⟨w.heap.size, 1, none⟩) (by simp)).trans (by simp [go_sem]);
       have hc2 : w1.cell? ⟨w.heap.size, 2, none⟩ = some (.pointer (some ⟨lb, 0, none⟩)) := (hb.cell (p := ⟨w.heap.size, 2, none⟩) (by simp)).trans (by simp [go_sem]);
       have hc3 : w1.cell? ⟨lb, 0, none⟩ = some (.int .i64 k) := (hb.cell (p := ⟨lb, 0, none⟩) (by simp; omega)).trans (by simp [go_sem, hlb, hl]);
       have hc4 : w1.frozen? ⟨lb, 0, none⟩ = false := (hb.frozen (p := ⟨lb, 0, none⟩) (by simp; omega)).trans (by simp [go_sem, hlb, hlf]);
       have HB : Hid (Below _ _ w1) := hb; clear hb; simp at hg1)
    | go_in)
  refine wp_loop_rounds 2 ?_
  rw [rounds_succ]
  go_wp2_with (first
      | (at_builtin; refine wpList_append_own _ rfl _ _ 76 rfl w.heap.size 51 i0 (.agg #[.nilIface, .int .i64 0, .pointer none]) 3 32 Tryd.underlying76 hi hz0 hz1 hz2 rfl (by decide) _ 0 [] rfl ((World.ownsRow_nil _ _ _ _).alloc _) ⟨w1.heap.size, 0, none⟩ 1 1 [.iface t x, .int .i64 (d + 1), .pointer (some ⟨lb, 0, none⟩)] rfl rfl ?c1 ?c2 ?c3 ?c4 ?c5 ?_)
      | go_in)
  case c1 =>
    intro j u hj
    match j, hj with
    | 0, hj => simp at hj; subst hj; exact cell_new (by simp) rfl
    | 1, hj => simp at hj; subst hj; exact cell_new (by simp) rfl
    | 2, hj => simp at hj; subst hj; exact cell_new (by simp) rfl
  case c2 => intro u hu; simp at hu; rcases hu with rfl | rfl | rfl <;> rfl
  case c3 => unfold maxLen; omega
  case c4 => omega
  case c5 => simp; omega
  intro v' w2 hown hgrow _
  obtain ⟨g', cap', rfl, hg1', hg2', hgc'⟩ := owns_one hown
  have hgc0 := hgc' 0 _ rfl
  have hgc1 := hgc' 1 _ rfl
  have hgc2 := hgc' 2 _ rfl
  have HG : Hid _ := hgrow
  clear hgc' hown hgrow hc0 hc1 hc2 hc3 hc4 hgc
  go_wp2
  rw [rounds_succ]; go_wp2
  go_ret
  refine ⟨g', cap', rfl, hg1', hg2', hgc0, hgc1, hgc2, ?_⟩
  have h0 : Below w.heap.size w w1 := ((Below.refl _ _).alloc (Nat.le_refl _) _).trans (HB.out.mono (by simp))
  have h1 := below_setCell_both h0 ⟨lb, 0, none⟩ (.int .i64 (k - 1))
  have hz := h0.size
  exact (h1.alloc (by simp; omega) _).grown HG.out (by simp; omega) (by simp [Value.ownBlock])

end Go.Proofs.YtghdiflnkbkgaaaDoor
