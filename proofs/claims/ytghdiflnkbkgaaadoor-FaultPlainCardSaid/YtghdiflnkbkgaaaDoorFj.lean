/- look, Line, Depth and Chain of a chain. -/
import Derived.Test.YtghdiflnkbkgaaaDoorFg24
import Derived.Test.YtghdiflnkbkgaaaDoorFg26
import Derived.Test.YtghdiflnkbkgaaaDoorFg28
import Derived.Test.YtghdiflnkbkgaaaDoorFi
namespace Go.Proofs.YtghdiflnkbkgaaaDoor
open Go.RowKit

set_option maxRecDepth 100000 in
set_option maxHeartbeats 400000 in
theorem look_any (v : Value) (hv : v = .nilIface ∨ ∃ t x, v = .iface t x) (m : Int) (w : World) (h1 : 1 ≤ m) (h2 : m < 2147483648) :
    Calls Tryd.prog 22 #[v, .int .i64 m] w fun e w' => e = .returned (.agg #[v, .int .i64 1, .pointer (some ⟨w.heap.size + 1, 0, none⟩)]) ∧ Left w' (w.heap.size + 1) (m - 1) ∧ Below w.heap.size w w' ∧ w'.heap.size = w.heap.size + 2 := by
  rcases hv with rfl | ⟨t, x, rfl⟩
  · go_enter Tryd.func22, Tryd.ntmps22
    go_wp2
    refine bodyPost_ret (v := .agg #[.nilIface, .int .i64 1, .pointer (some ⟨w.heap.size + 1, 0, none⟩)]) (by simp [results, Tryd.results22, go_sem]) rfl ?_
    exact ⟨rfl, ⟨by simp, cell_new (by simp) rfl, by simp [go_sem]⟩, ((Below.refl _ _).alloc (Nat.le_refl _) _).alloc (by simp) _, by simp⟩
  · go_enter Tryd.func22, Tryd.ntmps22
    go_wp2
    refine bodyPost_ret (v := .agg #[.iface t x, .int .i64 1, .pointer (some ⟨w.heap.size + 1, 0, none⟩)]) (by simp [results, Tryd.results22, go_sem]) rfl ?_
    exact ⟨rfl, ⟨by simp, cell_new (by simp) rfl, by simp [go_sem]⟩, ((Below.refl _ _).alloc (Nat.le_refl _) _).alloc (by simp) _, by simp⟩

theorem owns_base {w : World} {base base' : Nat} {e : TypeId} {size : Nat} {v : Value} {n : Nat} {xs : List Value} (h : w.ownsRow base e size v n xs) (hb : base' ≤ base) : w.ownsRow base' e size v n xs := by
  refine ⟨h.1, ?_⟩
  rcases h.2 with h | ⟨g, cap, cur, h1, h2, h3⟩
  · exact .inl h
  · exact .inr ⟨g, cap, cur, h1, Nat.le_trans hb h2, h3⟩

set_option maxRecDepth 100000 in
set_option maxHeartbeats 400000 in
theorem line_any (b : Option Int) (r : List (Int × Int)) (hr : r.length < 64) (w : World) :
    Calls Tryd.prog 9 #[chn b r] w fun e w' => e = .returned (.int .i64 (goes lineStep b 0 r 1).1) ∧ Below w.heap.size w w' := by
  have hv := chn_iface b r
  have h3 := mkf
  have HC : Hid _ := fun lb w1 (hne : w.heap.size ≠ lb) (hle : w.heap.size ≤ lb) (hI : Cap w w.heap.size w.heap.size (.int .i64 0) w1) (hL : Left w1 lb 2147483646) =>
    each24_any lineStep _ lb (.pointer (some ⟨w.heap.size, 0, none⟩)) (keeps_cap (fun s : Int => .int .i64 s) w w.heap.size w.heap.size lb hle hne) (line_tells w w.heap.size w.heap.size lb hne) b r 0 1 2147483646 w1 (by omega) (by omega) (by omega) (by omega) hI hL
  have HV : Hid _ := hv
  clear hv
  generalize chn b r = v at HC HV ⊢
  generalize hg : goes lineStep b 0 r 1 = res at HC ⊢
  clear hg
  go_enter Tryd.func9, Tryd.ntmps9
  go_wp2_with (first
    | (go_at_call 22; refine (look_any v HV.out _ _ (by omega) (by omega)).mono ?_; rintro e w1 ⟨rfl, hL, hb, hz⟩;
       have hI : Cap w w.heap.size w.heap.size (.int .i64 0) w1 := ⟨(box_below _ _).trans (hb.mono (by simp)), Nat.le_refl _, (by simp at hz; omega), (hb.cell (p := ⟨w.heap.size, 0, none⟩) (by simp)).trans (cell_new rfl rfl), (hb.frozen (p := ⟨w.heap.size, 0, none⟩) (by simp)).trans (by simp [go_sem])⟩;
       have HI : Hid _ := hI; have HL : Hid _ := hL; clear hI hL hb hz)
    | (go_at_call 23; refine Calls.mono (HC.out _ _ (by omega) (by omega) HI.out (by simpa using HL.out)) ?_; rintro e w2 ⟨rfl, ⟨d', hI2⟩, _⟩;
       have hc2 := hI2.cell; have hb2 := hI2.below; have HB : Hid _ := hb2; clear hI2 hb2))
  go_ret
  exact ⟨rfl, HB.out⟩

set_option maxRecDepth 100000 in
set_option maxHeartbeats 400000 in
theorem depth_any (b : Option Int) (r : List (Int × Int)) (hr : r.length < 60) (w : World) :
    Calls Tryd.prog 10 #[chn b r] w fun e w' => e = .returned (.int .i64 (goes depthStep b 0 r 1).1) ∧ Below w.heap.size w w' := by
  have hv := chn_iface b r
  have h3 := mkf
  have HC : Hid _ := fun lb w1 (hne : w.heap.size ≠ lb) (hle : w.heap.size ≤ lb) (hI : Cap w w.heap.size w.heap.size (.int .i64 0) w1) (hL : Left w1 lb 63) =>
    each26_any depthStep _ lb (.pointer (some ⟨w.heap.size, 0, none⟩)) (keeps_cap (fun s : Int => .int .i64 s) w w.heap.size w.heap.size lb hle hne) (depth_tells w w.heap.size w.heap.size lb hne) b r 0 1 63 w1 (by omega) (by omega) (by omega) (by omega) hI hL
  have HV : Hid _ := hv
  clear hv
  generalize chn b r = v at HC HV ⊢
  generalize hg : goes depthStep b 0 r 1 = res at HC ⊢
  clear hg
  go_enter Tryd.func10, Tryd.ntmps10
  go_wp2_with (first
    | (go_at_call 22; refine (look_any v HV.out _ _ (by omega) (by omega)).mono ?_; rintro e w1 ⟨rfl, hL, hb, hz⟩;
       have hI : Cap w w.heap.size w.heap.size (.int .i64 0) w1 := ⟨(box_below _ _).trans (hb.mono (by simp)), Nat.le_refl _, (by simp at hz; omega), (hb.cell (p := ⟨w.heap.size, 0, none⟩) (by simp)).trans (cell_new rfl rfl), (hb.frozen (p := ⟨w.heap.size, 0, none⟩) (by simp)).trans (by simp [go_sem])⟩;
       have HI : Hid _ := hI; have HL : Hid _ := hL; clear hI hL hb hz)
    | (go_at_call 23; refine Calls.mono (HC.out _ _ (by omega) (by omega) HI.out (by simpa using HL.out)) ?_; rintro e w2 ⟨rfl, ⟨d', hI2⟩, _⟩;
       have hc2 := hI2.cell; have hb2 := hI2.below; have HB : Hid _ := hb2; clear hI2 hb2))
  go_ret
  exact ⟨rfl, HB.out⟩

set_option maxRecDepth 100000 in
set_option maxHeartbeats 400000 in
theorem chain_any (b : Option Int) (r : List (Int × Int)) (hr : r.length < 60) (w : World) :
    Calls Tryd.prog 15 #[chn b r] w fun e w' => ∃ v', e = .returned v' ∧ w'.ownsRow w.heap.size 23 1 v' (goes chainStep b [] r 1).1.length ((goes chainStep b [] r 1).1.map (Value.int .i64)) ∧ (∃ a n c, v' = .slice a n c) ∧ Below w.heap.size w w' := by
  have hv := chn_iface b r
  have h3 := mkf
  have HC : Hid _ := fun lb w1 (hlt : w.heap.size < lb) (hI : CapRow w w.heap.size w.heap.size lb [] 1 w1) (hL : Left w1 lb 63) =>
    each28_any chainStep _ lb (.pointer (some ⟨w.heap.size, 0, none⟩)) (keeps_row w w.heap.size w.heap.size lb (Nat.le_of_lt hlt) (Nat.ne_of_lt hlt)) (chain_tells w w.heap.size w.heap.size lb hlt) b r [] 1 63 w1 (by omega) (by omega) (by omega) (by omega) hI hL
  have HV : Hid _ := hv
  clear hv
  generalize chn b r = v at HC HV ⊢
  generalize hg : goes chainStep b [] r 1 = res at HC ⊢
  clear hg
  go_enter Tryd.func15, Tryd.ntmps15
  go_wp2_with (first
    | (go_at_call 22; refine (look_any v HV.out _ _ (by omega) (by omega)).mono ?_; rintro e w1 ⟨rfl, hL, hb, hz⟩;
       have hI : Cap w w.heap.size w.heap.size (.slice none 0 0) w1 := ⟨(box_below _ _).trans (hb.mono (by simp)), Nat.le_refl _, (by simp at hz; omega), (hb.cell (p := ⟨w.heap.size, 0, none⟩) (by simp)).trans (cell_new rfl rfl), (hb.frozen (p := ⟨w.heap.size, 0, none⟩) (by simp)).trans (by simp [go_sem])⟩;
       have HI : Hid _ := hI; have HL : Hid _ := hL; clear hI hL hb hz)
    | (go_at_call 23; refine Calls.mono (HC.out _ _ (by omega) ⟨_, HI.out, World.ownsRow_nil _ _ _ _, by simp, _, _, _, rfl⟩ (by simpa using HL.out)) ?_; rintro e w2 ⟨rfl, ⟨d', v', hI2, ho2, _, a', n', c', rfl⟩, _⟩;
       have hc2 := hI2.cell; have hb2 := hI2.below; have HB : Hid _ := hb2; have HO : Hid _ := ho2; clear hI2 hb2 ho2))
  go_ret
  exact ⟨_, rfl, owns_base HO.out (by omega), ⟨_, _, _, rfl⟩, HB.out⟩

end Go.Proofs.YtghdiflnkbkgaaaDoor
