/- The reference's Total, set, put. -/
import Derived.Deep.LoopGhost
import Derived.Test.YtmnemandmpoioaaAd
namespace Go.Proofs.Ytmnemandmpoioaa
open Go.RowKit Fl

/-- The total; -1: they may not be. -/
def totF (n : Nat) (f : Nat → Int) : Int := if 0 ≤ firstBad f 0 n then -1 else sumN f n
/-- The rest of the sum from j on. -/
def totR (f : Nat → Int) (s : Int) : Nat → Nat → Int
  | _, 0 => s
  | j, k + 1 => if badW (f j) = true then -1 else totR f (s + f j) (j + 1) k
theorem totR_bad {f : Nat → Int} : ∀ {k j : Nat} {s : Int}, 0 ≤ firstBad f j k → totR f s j k = -1
  | 0, _, _, h => by rw [firstBad] at h; omega
  | k + 1, j, s, h => by
    rw [firstBad] at h
    rw [totR]
    split
    · rfl
    · rename_i hb
      rw [if_neg hb] at h
      exact totR_bad h
theorem totR_good {f : Nat → Int} : ∀ {k j : Nat}, ¬ 0 ≤ firstBad f j k → totR f (sumN f j) j k = sumN f (j + k)
  | 0, _, _ => rfl
  | k + 1, j, h => by
    rw [firstBad] at h
    rw [totR]
    split
    · rename_i hb
      rw [if_pos hb] at h; omega
    · rename_i hb
      rw [if_neg hb] at h
      have := totR_good h
      rw [sumN] at this
      rw [this]
      congr 1
      omega
theorem totR_eq (f : Nat → Int) (n : Nat) : totR f 0 0 n = totF n f := by
  unfold totF
  split
  · rename_i h; exact totR_bad h
  · rename_i h
    have := totR_good h
    rw [Nat.zero_add] at this
    exact this

set_option maxRecDepth 100000 in
set_option maxHeartbeats 1000000 in
theorem rtotal_any (n c : Nat) (ao : Option Addr) (f : Nat → Int) (w : World) (h : Nms w ao n f) (hn : n ≤ 1000000) : Calls Try.prog 8 #[.slice ao n c] w fun e w' => e = .returned (.int .i64 (totF n f)) ∧ w' = w := by
  have HF := hid h
  have HN := aside hn
  have HT := aside (totR_eq f n)
  clear h hn
  go_enter Try.func8, Try.ntmps8
  go_wp2_with fail
  go_loopg [3, 4] n (fun k t i wr => ∃ (j : Nat) (s : Int), k + j = n ∧ i = .int .i64 (j : Int) ∧ t = .int .i64 s ∧ (0 ≤ s ∧ s ≤ 1048576 * j) ∧ totR f s j k = totF n f ∧ wr = w)
  case atStart => exact ⟨0, 0, by omega, rfl, rfl, by omega, HT.out, rfl⟩
  case round =>
    obtain ⟨g0, hg0⟩ : ∃ g0, g0 = gk := ⟨_, rfl⟩
    subst hg0
    obtain ⟨j, s, hk, rfl, rfl, hs, hR, hwr⟩ := hrel
    obtain rfl := hwr.symm
    have HK := aside hk
    have HR := aside hR
    have hn := HN.out
    obtain ⟨s0, s1⟩ := hs
    clear hk hR hwr HT
    cases g0 with
    | zero =>
      have hjn : j = n := by have := HK.out; omega
      subst hjn
      have HR2 : Aside (s = totF j f) := HR.out
      have hd : ((j : Int) < (j : Int)) = False := eq_false (by omega)
      go_wp2_with fail
      go_ret
      exact ⟨congrArg (fun z => Ending.returned (Value.int .i64 z)) HR2.out, rfl⟩
    | succ k =>
      have hj : j < n := by have := HK.out; omega
      have hd : ((j : Int) < (n : Int)) = True := eq_true (by omega)
      rcases HF.out with h | ⟨g, off, rfl, hI⟩
      · omega
      have hc := hI.cell hj
      clear hI
      have hr := HR.out
      rw [totR] at hr
      generalize f j = x at *
      by_cases h0 : x < 0
      · have hb : badW x = true := by unfold badW; rw [decide_eq_true h0]; rfl
        rw [if_pos hb] at hr
        have HR2 := aside hr
        have hd2 : (x < 0) = True := eq_true h0
        clear hr HR hb
        go_wp2_with fail
        go_ret
        exact ⟨congrArg (fun z => Ending.returned (Value.int .i64 z)) HR2.out, rfl⟩
      · by_cases h1 : 1048576 < x
        · have hb : badW x = true := by unfold badW; rw [decide_eq_true h1]; simp
          rw [if_pos hb] at hr
          have HR2 := aside hr
          have hd2 : (x < 0) = False := eq_false h0
          have hd3 : (1048576 < x) = True := eq_true h1
          clear hr HR hb
          go_wp2_with fail
          go_ret
          exact ⟨congrArg (fun z => Ending.returned (Value.int .i64 z)) HR2.out, rfl⟩
        · have hb : ¬ badW x = true := by unfold badW; rw [decide_eq_false h0, decide_eq_false h1]; simp
          rw [if_neg hb] at hr
          have HR2 := aside hr
          have hd2 : (x < 0) = False := eq_false h0
          have hd3 : (1048576 < x) = False := eq_false h1
          clear hr HR hb
          go_wp2_with fail
          go_roundg k
          case measure => omega
          case rel => exact ⟨j + 1, _, by have := HK.out; omega, by go_num, rfl, by omega, HR2.out, rfl⟩

/-- The columns as cells. -/
def cols (n : Nat) (TH : Nat → Int) (AL : Nat → Nat) : List Value := (List.range n).flatMap fun i => [.int .i64 (TH i), .int .i64 (AL i)]
theorem cols_succ (n : Nat) (TH : Nat → Int) (AL : Nat → Nat) : cols (n + 1) TH AL = cols n TH AL ++ [.int .i64 (TH n), .int .i64 (AL n)] := by
  unfold cols; rw [List.range_succ, List.flatMap_append]; rfl
theorem cols_len (TH : Nat → Int) (AL : Nat → Nat) : ∀ n, (cols n TH AL).length = n * 2
  | 0 => rfl
  | n + 1 => by rw [cols_succ, List.length_append, cols_len TH AL n]; simp; omega
theorem cols_at (TH : Nat → Int) (AL : Nat → Nat) : ∀ {n i : Nat}, i < n → (cols n TH AL)[i * 2]? = some (.int .i64 (TH i)) ∧ (cols n TH AL)[i * 2 + 1]? = some (.int .i64 (AL i))
  | n + 1, i, h => by
    rw [cols_succ]
    by_cases e : i = n
    · subst e
      rw [List.getElem?_append_right (by rw [cols_len]; omega), List.getElem?_append_right (by rw [cols_len]; omega), cols_len]
      rw [show i * 2 - i * 2 = 0 by omega, show i * 2 + 1 - i * 2 = 1 by omega]
      exact ⟨rfl, rfl⟩
    · rw [List.getElem?_append_left (by rw [cols_len]; omega), List.getElem?_append_left (by rw [cols_len]; omega)]
      exact cols_at TH AL (by omega)
theorem cols_congr {TH TH' : Nat → Int} {AL AL' : Nat → Nat} : ∀ {n : Nat}, (∀ i, i < n → TH i = TH' i ∧ AL i = AL' i) → cols n TH AL = cols n TH' AL'
  | 0, _ => rfl
  | n + 1, h => by
    rw [cols_succ, cols_succ, cols_congr fun i hi => h i (by omega), (h n (by omega)).1, (h n (by omega)).2]
theorem cols_set (TH : Nat → Int) (AL : Nat → Nat) (x : Nat) (t : Int) (a : Nat) : ∀ {n : Nat}, x < n → ((cols n TH AL).set (x * 2) (.int .i64 t)).set (x * 2 + 1) (.int .i64 a) = cols n (upd TH x t) (upd AL x a)
  | n + 1, h => by
    rw [cols_succ, cols_succ]
    by_cases e : x = n
    · subst e
      rw [List.set_append_right _ _ (by rw [cols_len]; omega), List.set_append_right _ _ (by rw [cols_len]; omega), cols_len, upd_self, upd_self]
      rw [show x * 2 - x * 2 = 0 by omega, show x * 2 + 1 - x * 2 = 1 by omega]
      rw [cols_congr (TH' := upd TH x t) (AL' := upd AL x a) fun i hi => by rw [upd_ne (by omega), upd_ne (by omega)]; exact ⟨rfl, rfl⟩]
      rfl
    · rw [List.set_append_left _ _ (by rw [cols_len]; omega), List.set_append_left _ _ (by rw [List.length_set, cols_len]; omega), cols_set TH AL x t a (by omega), upd_ne (Ne.symm e), upd_ne (Ne.symm e)]
theorem cols_one (n : Nat) (TH : Nat → Int) (AL : Nat → Nat) : ∀ u ∈ cols n TH AL, u.oneCell' = true := by
  intro u hu
  obtain ⟨i, _, h⟩ := List.mem_flatMap.1 hu
  simp at h
  rcases h with rfl | rfl <;> rfl
theorem vals_set (f : Nat → Int) (x : Nat) (v : Int) (n : Nat) : (vals n f).set x (.int .i64 v) = vals n (upd f x v) := by
  apply List.ext_getElem?
  intro i
  rw [List.getElem?_set]
  by_cases hi : i < n
  · rw [vals_at hi, vals_at hi, vals_len]
    by_cases e : x = i
    · subst e; rw [if_pos rfl, if_pos hi, upd_self]
    · rw [if_neg e, upd_ne (Ne.symm e)]
  · have h1 : (vals n f)[i]? = none := List.getElem?_eq_none (by rw [vals_len]; omega)
    have h2 : (vals n (upd f x v))[i]? = none := List.getElem?_eq_none (by rw [vals_len]; omega)
    rw [h1, h2, vals_len]
    split
    · split
      · omega
      · rfl
    · rfl

theorem info_col : ∃ i, Try.prog.info? 35 = some i ∧ i.zero = some (.agg #[.int .i64 0, .int .i64 0]) ∧ i.size = 2 ∧ i.bytes = 16 := by
  have h : (Try.prog.info? 35).map (fun i => (i.zero, i.size, i.bytes)) = some (some (.agg #[.int .i64 0, .int .i64 0]), 2, 16) := by kernel_rfl
  obtain ⟨i, hi, hz⟩ := Option.map_eq_some_iff.1 h
  simp only [Prod.mk.injEq] at hz
  exact ⟨i, hi, hz.1, hz.2.1, hz.2.2⟩
theorem under_cols : Try.prog.underlying 29 = some (.slice 35) := by kernel_rfl

/-- What is owned, told by its block. -/
theorem owns_blk {w : World} {base : Nat} {e : TypeId} {size : Nat} {ao : Option Addr} {n cap : Nat} {xs : List Value} (h : w.ownsRow base e size (.slice ao n cap) n xs) (h0 : 0 < n) : ∃ g, ao = some ⟨g, 0, none⟩ ∧ g < w.heap.size := by
  rcases h.2 with ⟨h2, rfl⟩ | ⟨g, c, cur, hv, hg, hh, r⟩
  · omega
  · simp only [Value.slice.injEq] at hv
    exact ⟨g, hv.1, (Array.getElem?_eq_some_iff.1 hh).1⟩
theorem owns_news {w : World} {base : Nat} {e : TypeId} {size : Nat} {g n cap : Nat} {xs : List Value} (h : w.ownsRow base e size (.slice (some ⟨g, 0, none⟩) n cap) n xs) : ∀ j u, xs[j]? = some u → w.cell? ((⟨g, 0, none⟩ : Addr).add j) = some u := h.cells (g := g) rfl

set_option maxRecDepth 100000 in
set_option maxHeartbeats 1000000 in
theorem rset_any (n g c x : Nat) (f : Nat → Int) (v : Int) (w : World) (h : w.ownsRow 0 3 1 (.slice (some ⟨g, 0, none⟩) n c) n (vals n f)) (hx : x < n) (hn : n ≤ 1000000) : Calls Try.prog 24 #[.slice (some ⟨g, 0, none⟩) n c, .int .i64 x, .int .i64 v] w fun e w' => ∃ g' c', e = .returned (.slice (some ⟨g', 0, none⟩) n c') ∧ w.heap.size ≤ g' ∧ w'.ownsRow 0 3 1 (.slice (some ⟨g', 0, none⟩) n c') n (vals n (upd f x v)) ∧ Below w.heap.size w w' := by
  obtain ⟨i0, hi, hz0, hz1, hz2⟩ := info_int
  have HO := hid h
  clear h
  go_enter Try.func24, Try.ntmps24
  go_wp2_with (first
    | (at_builtin; refine wpList_append_own _ rfl _ _ 22 rfl w.heap.size 3 i0 (.int .i64 0) 1 8 under_ints hi hz0 hz1 hz2 rfl (by decide) _ 0 [] rfl (World.ownsRow_lit w #[] 0 (Nat.le_refl _) (by decide) rfl) ⟨g, 0, none⟩ n c (vals n f) rfl (by rw [vals_len]; omega) (owns_news (HO.out.alloc _)) (vals_one n f) (max_small (by omega)) (by omega) (by simp) ?_)
    | fail)
  intro v' w' hown hg _
  have HB : Hid (Below w.heap.size w w') := by
    refine ⟨hg.os, hg.tape, hg.output, ?_, fun k hk => ?_⟩
    · have := hg.size
      simp at this
      omega
    · rw [hg.block k (by simp; omega) (by simp [Value.ownBlock]; omega)]
      exact heap_alloc_old w _ hk
  clear hg
  obtain ⟨ao, cap, rfl, -⟩ := owns_slice hown
  obtain ⟨g', rfl, hlt⟩ := owns_blk hown (by omega)
  have HGE := hid (hown.lt g' rfl).1
  have HO2 := hid hown
  have kO : w'.cell? ⟨g', x, none⟩ = _ := (hown.cellAt x (by omega)).trans (vals_at hx)
  have zO := hown.frozenAt
  have hd : ((x : Int) < (n : Int)) = True := eq_true (by omega)
  clear hown hlt
  go_wp2_with fail
  go_ret
  have hs := (HO2.out.stored x (.int .i64 v)).1
  rw [vals_set] at hs
  exact ⟨g', cap, by simp, HGE.out, owns_base hs (Nat.zero_le _), HB.out.setCell HGE.out _⟩

set_option maxRecDepth 100000 in
set_option maxHeartbeats 1000000 in
theorem rput_any (n g c x a : Nat) (TH : Nat → Int) (AL : Nat → Nat) (t : Int) (w : World) (h : w.ownsRow 0 35 2 (.slice (some ⟨g, 0, none⟩) n c) n (cols n TH AL)) (hx : x < n) (hn : n ≤ 1000000) : Calls Try.prog 23 #[.slice (some ⟨g, 0, none⟩) n c, .int .i64 x, .agg #[.int .i64 t, .int .i64 a]] w fun e w' => ∃ g' c', e = .returned (.slice (some ⟨g', 0, none⟩) n c') ∧ w.heap.size ≤ g' ∧ w'.ownsRow 0 35 2 (.slice (some ⟨g', 0, none⟩) n c') n (cols n (upd TH x t) (upd AL x a)) ∧ Below w.heap.size w w' := by
  obtain ⟨i0, hi, hz0, hz1, hz2⟩ := info_col
  have HO := hid h
  have HEM := hid (World.ownsRow_lit (base := w.heap.size + 1) (e := 35) (size := 2) (w.alloc (.cells #[.int .i64 t, .int .i64 (a : Int)] 35)) #[] 0 (by simp) (by decide) rfl)
  rw [show (w.alloc (.cells #[.int .i64 t, .int .i64 (a : Int)] 35)).heap.size = w.heap.size + 1 by simp] at HEM
  clear h
  go_enter Try.func23, Try.ntmps23
  go_wp2_with (first
    | (at_builtin; refine wpList_append_own _ rfl _ _ 29 rfl (w.heap.size + 1) 35 i0 (.agg #[.int .i64 0, .int .i64 0]) 2 16 under_cols hi hz0 hz1 hz2 rfl (by decide) _ 0 [] rfl HEM.out ⟨g, 0, none⟩ n c (cols n TH AL) rfl (by rw [cols_len]) (owns_news ((HO.out.alloc _).alloc _)) (cols_one n TH AL) (max_small (by omega)) (by omega) (by simp) ?_)
    | fail)
  intro v' w' hown hg _
  have HB : Hid (Below w.heap.size w w') := by
    refine ⟨hg.os, hg.tape, hg.output, ?_, fun k hk => ?_⟩
    · have := hg.size
      simp at this
      omega
    · rw [hg.block k (by simp; omega) (by simp [Value.ownBlock]; omega)]
      exact (heap_alloc_old _ _ (by simp; omega)).trans (heap_alloc_old w _ hk)
  have hbx : Lp.Bk w' w.heap.size #[.int .i64 t, .int .i64 (a : Int)] 35 := grown_keep hg ((Lp.Bk.al w _ _).alo _) (by simp [Value.ownBlock])
  have kX := hbx.cell
  clear hg hbx
  obtain ⟨ao, cap, rfl, -⟩ := owns_slice hown
  obtain ⟨g', rfl, hlt⟩ := owns_blk hown (by omega)
  have hge := (hown.lt g' rfl).1
  have HGE := hid (show w.heap.size ≤ g' by omega)
  have HO2 := hid hown
  have kO : w'.cell? ⟨g', x * 2, none⟩ = _ := (hown.cellAt (x * 2) (by omega)).trans (cols_at TH AL hx).1
  have kO2 : w'.cell? ⟨g', x * 2 + 1, none⟩ = _ := (hown.cellAt (x * 2 + 1) (by omega)).trans (cols_at TH AL hx).2
  have zO := hown.frozenAt
  have hd : ((x : Int) < (n : Int)) = True := eq_true (by omega)
  have hne : (g' = w.heap.size) = False := eq_false (by omega)
  have hne2 : (w.heap.size = g') = False := eq_false (by omega)
  clear hown hlt
  go_wp2_with fail
  go_ret
  have hs := ((HO2.out.stored (x * 2) (.int .i64 t)).1.stored (x * 2 + 1) (.int .i64 (a : Int))).1
  rw [cols_set TH AL x t a hx] at hs
  exact ⟨g', cap, by simp, HGE.out, owns_base hs (Nat.zero_le _), (HB.out.setCell HGE.out _).setCell HGE.out _⟩
end Go.Proofs.Ytmnemandmpoioaa
