/- The walk of the law FaultPlain. -/
import Derived.Test.YtghdiflnkbkgaaaDoorGd
import Derived.Test.YtghdiflnkbkgaaaDoorFv
namespace Go.Proofs.YtghdiflnkbkgaaaDoor
open Go.RowKit

theorem isSelf (c : Int) (w : World) : Calls Tryd.prog 11 #[.iface 23 (.int .i64 c), .int .i64 c] w fun e w' => e = .returned (.bool true) ∧ Below w.heap.size w w' :=
  (fIs_chn (some c) c [] (by decide) w).mono fun e w' h => ⟨by rw [h.1]; simp [hasC], h.2⟩
theorem isOther (c o : Int) (w : World) : Calls Tryd.prog 11 #[.iface 23 (.int .i64 c), .int .i64 o] w fun e w' => e = .returned (.bool (c == o)) ∧ Below w.heap.size w w' :=
  fIs_chn (some c) o [] (by decide) w
theorem isWrapped (c l : Int) (w : World) : Calls Tryd.prog 11 #[.iface 43 (.agg #[.int .i64 8, .int .i64 l, .iface 23 (.int .i64 c)]), .int .i64 c] w fun e w' => e = .returned (.bool true) ∧ Below w.heap.size w w' :=
  (fIs_chn (some c) c [(8, l)] (by simp) w).mono fun e w' h => ⟨by rw [h.1]; simp [hasC], h.2⟩
theorem lineWrapped (c l : Int) (w : World) : Calls Tryd.prog 9 #[.iface 43 (.agg #[.int .i64 8, .int .i64 l, .iface 23 (.int .i64 c)])] w fun e w' => e = .returned (.int .i64 l) ∧ Below w.heap.size w w' :=
  (line_any (some c) [(8, l)] (by simp) w).mono fun e w' h => ⟨by
    rw [h.1]
    by_cases hl : l = 0
    · subst hl; rfl
    · simp [goes, lineStep, hl], h.2⟩
theorem depthSame (c : Int) (w : World) : Calls Tryd.prog 10 #[.iface 23 (.int .i64 c)] w fun e w' => e = .returned (.int .i64 1) ∧ Below w.heap.size w w' :=
  depth_any (some c) [] (by decide) w
theorem chainWrapped (c l : Int) (w : World) : Calls Tryd.prog 15 #[.iface 43 (.agg #[.int .i64 8, .int .i64 l, .iface 23 (.int .i64 c)])] w fun e w' =>
    ∃ g cap, e = .returned (.slice (some ⟨g, 0, none⟩) 2 cap) ∧ g < w'.heap.size ∧ w'.cell? ⟨g, 0, none⟩ = some (.int .i64 8) ∧ w'.cell? ⟨g, 1, none⟩ = some (.int .i64 c) ∧ Below w.heap.size w w' :=
  (chain_any (some c) [(8, l)] (by simp) w).mono fun e w' ⟨v', he, ho, _, hb⟩ => by
    have ho' : w'.ownsRow w.heap.size 23 1 v' 2 [.int .i64 8, .int .i64 c] := ho
    rcases owns_cells ho' with ⟨_, h⟩ | ⟨g, cap, hv, _, hg, hc⟩
    · cases h
    · exact ⟨g, cap, by rw [he, hv], hg, hc 0 _ rfl, hc 1 _ rfl, hb⟩
theorem fisSelf (o l : Int) (x : Value) (hx : x.oneCell' = true) (w : World) : Calls Tryd.prog 20 #[.agg #[.int .i64 o, .int .i64 l, x], .iface 23 (.int .i64 o)] w fun e w' => e = .returned (.bool true) ∧ Below w.heap.size w w' :=
  (fis_any o l o x hx w).mono fun e w' h => ⟨by rw [h.1]; simp, h.2⟩
theorem fisLine (o l : Int) (x : Value) (hx : x.oneCell' = true) (w : World) : Calls Tryd.prog 20 #[.agg #[.int .i64 o, .int .i64 l, x], .iface 23 (.int .i64 15)] w fun e w' => e = .returned (.bool (o == 15)) ∧ Below w.heap.size w w' :=
  (fis_any o l 15 x hx w).mono fun e w' h => ⟨by rw [h.1, Bool.beq_comm], h.2⟩
theorem errorNot (o l c : Int) (hok : okI (.inl (o, l))) (w : World) (hT : Tab w) (h2 : 2 < w.heap.size) :
    Calls Tryd.prog 18 #[.agg #[.int .i64 o, .int .i64 l, .iface 23 (.int .i64 c)]] w fun e w' => (∃ (s : ByteArray) (x : UInt8) (r : List UInt8), e = .returned (.string s) ∧ s.toList = x :: r) ∧ Below w.heap.size w w' :=
  (error_two o l c hok w hT h2).mono fun e w' ⟨⟨s, he, hs⟩, hb⟩ => by
    cases s with
    | nil => exact absurd rfl hs
    | cons x r => exact ⟨⟨_, x, r, he, by simp⟩, hb⟩

set_option maxRecDepth 100000 in
set_option maxHeartbeats 400000 in
theorem funw (o l c : Int) (w : World) : Calls Tryd.prog 19 #[.agg #[.int .i64 o, .int .i64 l, .iface 23 (.int .i64 c)]] w fun e w' => e = .returned (.iface 23 (.int .i64 c)) ∧ Below w.heap.size w w' := by
  go_enter Tryd.func19, Tryd.ntmps19
  go_wp2_with fail
  go_ret
  exact ⟨rfl, box_below _ _⟩

set_option maxRecDepth 100000 in
set_option maxHeartbeats 2000000 in
theorem plain_walk (c o l : Int) (hok : okI (.inl (o, l))) (w : World) (hG : w.cell? ⟨0, 0, none⟩ = some errType) (hT : Tab w) (h2 : 2 < w.heap.size) :
    Calls Tryd.prog 5 #[.int .i64 c, .int .i64 o, .int .i64 l] w fun e w' => e = .returned (.bool true) ∧ Below w.heap.size w w' := by
  have HG : Hid (∀ w', Below w.heap.size w w' → w'.cell? ⟨0, 0, none⟩ = some errType ∧ 0 < w'.heap.size) := fun w' h => ⟨(h.cell (p := ⟨0, 0, none⟩) (by show 0 < _; omega)).trans hG, by have := h.size; omega⟩
  have HT : Hid (Tab w) := hT
  clear hG hT
  go_enter Tryd.func5, Tryd.ntmps5
  go_wp2_with fail
  refine (wrap_any 23 (.int .i64 c) 8 l rfl _).mono ?_
  rintro e wx ⟨rfl, hwx⟩
  obtain rfl := hwx.symm
  go_wp2_with fail
  refine (new_ok l _).mono ?_
  rintro e wx ⟨rfl, hwx⟩
  obtain rfl := hwx.symm
  go_wp2_with fail
  refine (wrap_nil c l _).mono ?_
  rintro e wx ⟨rfl, hwx⟩
  obtain rfl := hwx.symm
  go_wp2_with fail
  refine (fIs_nil c _).mono ?_
  rintro e wx ⟨rfl, hwx⟩
  obtain rfl := hwx.symm
  go_wp2_with fail
  refine (wrap_ok 23 (.int .i64 c) l _).mono ?_
  rintro e wx ⟨rfl, hwx⟩
  obtain rfl := hwx.symm
  go_wp2_with fail
  refine (errorNot o l c hok _ (tab_below HT.out (box_below _ _) h2) (by simp; omega)).mono ?_
  rintro e w1 ⟨⟨s, x, r, rfl, hs⟩, hb⟩
  have HF : Hid (∀ w', Below (w.heap.size + 1) (w.alloc (.cells #[.int .i64 o, .int .i64 l, .iface 23 (.int .i64 c)] 43)) w' → w'.cell? ⟨w.heap.size, 0, none⟩ = some (.int .i64 o) ∧ w'.cell? ⟨w.heap.size, 1, none⟩ = some (.int .i64 l) ∧ w'.cell? ⟨w.heap.size, 2, none⟩ = some (.iface 23 (.int .i64 c))) := fun w' h =>
    ⟨(h.cell (p := ⟨w.heap.size, 0, none⟩) (by simp)).trans (cell_new rfl rfl), (h.cell (p := ⟨w.heap.size, 1, none⟩) (by simp)).trans (cell_new rfl rfl), (h.cell (p := ⟨w.heap.size, 2, none⟩) (by simp)).trans (cell_new rfl rfl)⟩
  have HA1 : Hid (Below (w.heap.size + 1) (w.alloc (.cells #[.int .i64 o, .int .i64 l, .iface 23 (.int .i64 c)] 43)) w1) := (by simpa using hb : Below _ _ _)
  obtain ⟨c0, c1, c2⟩ := HF.out w1 HA1.out
  clear hb
  go_wp2_with fail
  refine (funw o l c _).mono ?_
  rintro e w2 ⟨rfl, hb⟩
  have HA2 : Hid (Below (w.heap.size + 1) (w.alloc (.cells #[.int .i64 o, .int .i64 l, .iface 23 (.int .i64 c)] 43)) w2) := HA1.out.trans (hb.mono (by have := HA1.out.size; simpa using this))
  obtain ⟨c0, c1, c2⟩ := HF.out w2 HA2.out
  clear hb
  go_wp2_with fail
  refine (isSelf c _).mono ?_
  rintro e w3 ⟨rfl, hb⟩
  have HA3 : Hid (Below (w.heap.size + 1) (w.alloc (.cells #[.int .i64 o, .int .i64 l, .iface 23 (.int .i64 c)] 43)) w3) := HA2.out.trans (hb.mono (by have := HA2.out.size; simpa using this))
  obtain ⟨c0, c1, c2⟩ := HF.out w3 HA3.out
  clear hb
  go_wp2_with fail
  refine (fisSelf o l _ rfl _).mono ?_
  rintro e w4 ⟨rfl, hb⟩
  have HA4 : Hid (Below (w.heap.size + 1) (w.alloc (.cells #[.int .i64 o, .int .i64 l, .iface 23 (.int .i64 c)] 43)) w4) := HA3.out.trans (hb.mono (by have := HA3.out.size; simpa using this))
  obtain ⟨c0, c1, c2⟩ := HF.out w4 HA4.out
  clear hb
  go_wp2_with fail
  refine (fisLine o l _ rfl _).mono ?_
  rintro e w5 ⟨rfl, hb⟩
  have HA5 : Hid (Below (w.heap.size + 1) (w.alloc (.cells #[.int .i64 o, .int .i64 l, .iface 23 (.int .i64 c)] 43)) w5) := HA4.out.trans (hb.mono (by have := HA4.out.size; simpa using this))
  clear hb
  go_wp2_with fail
  refine (awake_any _ (HG.out _ ((box_below _ _).trans (HA5.out.mono (by omega)))).1 (HG.out _ ((box_below _ _).trans (HA5.out.mono (by omega)))).2).mono ?_
  rintro e w6 ⟨rfl, hb⟩
  have HA6 : Hid (Below (w.heap.size + 1) (w.alloc (.cells #[.int .i64 o, .int .i64 l, .iface 23 (.int .i64 c)] 43)) w6) := HA5.out.trans (hb.mono (by have := HA5.out.size; simpa using this))
  clear hb
  go_wp2_with fail
  refine (isOther c o _).mono ?_
  rintro e w7 ⟨rfl, hb⟩
  have HA7 : Hid (Below (w.heap.size + 1) (w.alloc (.cells #[.int .i64 o, .int .i64 l, .iface 23 (.int .i64 c)] 43)) w7) := HA6.out.trans (hb.mono (by have := HA6.out.size; simpa using this))
  clear hb
  go_wp2_with fail
  refine (code_ern c _ (HG.out _ ((box_below _ _).trans (HA7.out.mono (by omega)))).1 (HG.out _ ((box_below _ _).trans (HA7.out.mono (by omega)))).2).mono ?_
  rintro e w8 ⟨rfl, hb⟩
  have HA8 : Hid (Below (w.heap.size + 1) (w.alloc (.cells #[.int .i64 o, .int .i64 l, .iface 23 (.int .i64 c)] 43)) w8) := HA7.out.trans (hb.mono (by have := HA7.out.size; simpa using this))
  clear hb
  go_wp2_with fail
  refine (isWrapped c l _).mono ?_
  rintro e w9 ⟨rfl, hb⟩
  have HA9 : Hid (Below (w.heap.size + 1) (w.alloc (.cells #[.int .i64 o, .int .i64 l, .iface 23 (.int .i64 c)] 43)) w9) := HA8.out.trans (hb.mono (by have := HA8.out.size; simpa using this))
  clear hb
  go_wp2_with fail
  refine (code_flt 8 l _ rfl _ (HG.out _ ((box_below _ _).trans (HA9.out.mono (by omega)))).1 (HG.out _ ((box_below _ _).trans (HA9.out.mono (by omega)))).2).mono ?_
  rintro e w10 ⟨rfl, hb⟩
  have HA10 : Hid (Below (w.heap.size + 1) (w.alloc (.cells #[.int .i64 o, .int .i64 l, .iface 23 (.int .i64 c)] 43)) w10) := HA9.out.trans (hb.mono (by have := HA9.out.size; simpa using this))
  clear hb
  go_wp2_with fail
  refine (lineWrapped c l _).mono ?_
  rintro e w11 ⟨rfl, hb⟩
  have HA11 : Hid (Below (w.heap.size + 1) (w.alloc (.cells #[.int .i64 o, .int .i64 l, .iface 23 (.int .i64 c)] 43)) w11) := HA10.out.trans (hb.mono (by have := HA10.out.size; simpa using this))
  clear hb
  go_wp2_with fail
  refine (chainWrapped c l _).mono ?_
  rintro e w12 ⟨g, gcap, rfl, hg, hg0, hg1, hb⟩
  have HA12 : Hid (Below (w.heap.size + 1) (w.alloc (.cells #[.int .i64 o, .int .i64 l, .iface 23 (.int .i64 c)] 43)) w12) := HA11.out.trans (hb.mono (by have := HA11.out.size; simpa using this))
  clear hb
  go_wp2_with fail
  refine (errs_same g w12.heap.size 2 gcap 2 (fun j => if j = 0 then 8 else c) _ (by omega) (fun j hj => ?_) (fun j hj => ?_)).mono ?_
  · match j, hj with
    | 0, _ => simp [go_sem, hg, hg0]
    | 1, _ => simp [go_sem, hg, hg1]
  · match j, hj with
    | 0, _ => exact cell_new rfl rfl
    | 1, _ => exact cell_new rfl rfl
  rintro e w13 ⟨rfl, nq, hw13⟩
  have HA13 : Hid (Below (w.heap.size + 1) (w.alloc (.cells #[.int .i64 o, .int .i64 l, .iface 23 (.int .i64 c)] 43)) w13) := by
    rw [hw13]
    exact below_drewN (HA12.out.alloc (by have := HA12.out.size; simpa using this) _) _
  clear hw13 hg hg0 hg1
  go_wp2_with fail
  refine (depthSame c _).mono ?_
  rintro e w14 ⟨rfl, hb⟩
  have HA14 : Hid (Below (w.heap.size + 1) (w.alloc (.cells #[.int .i64 o, .int .i64 l, .iface 23 (.int .i64 c)] 43)) w14) := HA13.out.trans (hb.mono (by have := HA13.out.size; simpa using this))
  clear hb
  go_wp2_with fail
  refine (code_ern c _ (HG.out _ ((box_below _ _).trans (HA14.out.mono (by omega)))).1 (HG.out _ ((box_below _ _).trans (HA14.out.mono (by omega)))).2).mono ?_
  rintro e w15 ⟨rfl, hb⟩
  have HA15 : Hid (Below (w.heap.size + 1) (w.alloc (.cells #[.int .i64 o, .int .i64 l, .iface 23 (.int .i64 c)] 43)) w15) := HA14.out.trans (hb.mono (by have := HA14.out.size; simpa using this))
  clear hb
  go_wp2_with fail
  go_ret
  exact ⟨rfl, (box_below _ _).trans (HA15.out.mono (by omega))⟩
end Go.Proofs.YtghdiflnkbkgaaaDoor
