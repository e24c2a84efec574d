/- What the function that Error makes does, told one error. -/
import Derived.Test.YtghdiflnkbkgaaaDoorGb
import Derived.Test.YtghdiflnkbkgaaaDoorFg30
import Derived.Test.YtghdiflnkbkgaaaDoorFi
import Derived.Deep.RegionLaw
import Derived.Deep.AppendLies
namespace Go.Proofs.YtghdiflnkbkgaaaDoor
open Go.RowKit

theorem Tryd.info9 : (Tryd.prog.info? 9).map (fun i => (i.zero, i.size, i.bytes)) = some (some (.string ⟨#[]⟩), 1, 16) := by kernel_rfl

/-- The captured slice owns its texts, each of one byte at least and a hundred at most, in a row behind the count. -/
def CapTxt (w0 : World) (B cb lb : Nat) (n : Nat) (d : Int) (w : World) : Prop :=
  ∃ (v : Value) (xs : List ByteArray), Cap w0 B cb v w ∧ w.ownsRow (lb + 1) 9 1 v n (xs.map Value.string) ∧ (∀ x ∈ xs, 1 ≤ x.size ∧ x.size ≤ 100) ∧ (n : Int) < d ∧ (∃ a c, v = .slice a n c)

theorem keeps_txt (w0 : World) (B cb lb : Nat) (hl : B ≤ lb) (hne : cb ≠ lb) : Keeps Nat lb (CapTxt w0 B cb lb) :=
  ⟨fun _ _ _ _ ⟨v, xs, hc, ho, hd⟩ hb => ⟨v, xs, hc.grow hb, owns_grow ho hb, hd⟩, fun _ _ _ _ ⟨v, xs, hc, ho, hd⟩ => ⟨v, xs, hc.left hl hne _, ownsRow_setCell_below ho (by simp) _, hd⟩⟩

/-- Behind the append: the captured variable and the count are where they were. -/
theorem txt_mid {w0 w pre w2 : World} {B cb lb : Nat} {k : Int} {o : Obj} {n : Nat} {xs : List Value} {sv : Value} (hlt : cb < lb) (hI : Cap w0 B cb sv w) (hO : w.ownsRow (lb + 1) 9 1 sv n xs) (hL : Left w lb k)
    (hb : Below (w.heap.size + 1) (w.alloc o) pre) (hg : pre.grownBy w2 sv.ownBlock) : Cap w0 B cb sv w2 ∧ Left w2 lb k ∧ w.heap.size < w2.heap.size ∧ w2.heap[w.heap.size]? = some o := by
  obtain ⟨c1, c2, c3, c4⟩ := tell_same hI hL hb
  have hB := hI.le
  have low : ∀ j, j ≤ lb → j < pre.heap.size → w2.heap[j]? = pre.heap[j]? := fun j hj hj2 => hg.block j hj2 (fun e => by have := (hO.lt j e.symm).1; omega)
  have hcb := low cb (by omega) c1.lt
  have hlb := low lb (by omega) c2.lt
  refine ⟨⟨c1.below.grown hg (by have := c1.lt; omega) (fun j hj => by have := (hO.lt j hj).1; omega), hB, Nat.lt_of_lt_of_le c1.lt hg.size, (World.cell?_of_block (a := ⟨cb, 0, none⟩) hcb).trans c1.cell, (World.frozen?_of_block (a := ⟨cb, 0, none⟩) hcb).trans c1.frozen⟩,
    ⟨Nat.lt_of_lt_of_le c2.lt hg.size, (World.cell?_of_block (a := ⟨lb, 0, none⟩) hlb).trans c2.cell, (World.frozen?_of_block (a := ⟨lb, 0, none⟩) hlb).trans c2.frozen⟩, Nat.lt_of_lt_of_le c3 hg.size, ?_⟩
  rw [hg.block w.heap.size c3 (fun e => by have := (hO.lt w.heap.size e.symm).2; omega), c4]

theorem txt_end {w0 w w2 : World} {B cb lb : Nat} {k d : Int} {o : Obj} {n : Nat} {xs : List ByteArray} {s : ByteArray} {sv : Value} {g cap : Nat} (hlt : cb < lb) (hd : (n : Int) < d) (hxs : ∀ x ∈ xs, 1 ≤ x.size ∧ x.size ≤ 100) (hs : 1 ≤ s.size ∧ s.size ≤ 100)
    (h : Cap w0 B cb sv w2 ∧ Left w2 lb k ∧ w.heap.size < w2.heap.size ∧ w2.heap[w.heap.size]? = some o) (hw : cb < w.heap.size) (hown : w2.ownsRow (lb + 1) 9 1 (.slice (some ⟨g, 0, none⟩) (n + 1) cap) (n + 1) (xs.map Value.string ++ [.string s])) :
    CapTxt w0 B cb lb (n + 1) (d + 1) (w2.setCell ⟨cb, 0, none⟩ (.slice (some ⟨g, 0, none⟩) (n + 1) cap)) ∧ Left (w2.setCell ⟨cb, 0, none⟩ (.slice (some ⟨g, 0, none⟩) (n + 1) cap)) lb k ∧
      w.heap.size < (w2.setCell ⟨cb, 0, none⟩ (.slice (some ⟨g, 0, none⟩) (n + 1) cap)).heap.size ∧ (w2.setCell ⟨cb, 0, none⟩ (.slice (some ⟨g, 0, none⟩) (n + 1) cap)).heap[w.heap.size]? = some o := by
  obtain ⟨c1, c2, c3, c4⟩ := h
  refine ⟨⟨_, xs ++ [s], c1.set _, ?_, ?_, by omega, _, _, rfl⟩, c2.other (by omega) _, by simpa using c3, ?_⟩
  · have := ownsRow_setCell_below hown (a := ⟨cb, 0, none⟩) (by show cb < lb + 1; omega) (.slice (some ⟨g, 0, none⟩) (n + 1) cap)
    simpa using this
  · intro x hx
    rcases List.mem_append.1 hx with h | h
    · exact hxs x h
    · simp at h; subst h; exact hs
  · rw [Below.heap_setCell _ _ _ _ (by show w.heap.size ≠ cb; omega)]; exact c4

/-- Error: a text more; it goes on always. -/
def errStep (s : Nat) : Itm → Int → Nat × Bool := fun _ _ => (s + 1, true)

theorem news_one {w : World} {n : Nat} {v : Value} {t : TypeId} (h : w.heap.size = n) : ∀ j u, [v][j]? = some u → (w.alloc (.cells #[v] t)).cell? ((⟨n, 0, none⟩ : Addr).add j) = some u := by
  intro j u hj
  match j, hj with
  | 0, hj => simp at hj; subst hj; exact cell_new h rfl

theorem one_str (s : ByteArray) : ∀ u ∈ [Value.string s], u.oneCell' = true := by intro u hu; simp at hu; subst hu; rfl

theorem tab_of {w0 w : World} {B : Nat} (h : Tab w0) (hb : Below B w0 w) (h2 : 2 < B) : Tab w := var?_below hb Tryd.g10 h2 h

theorem text_any (c l : Int) (hok : okI (.inl (c, l))) (x : Value) (hx : x.oneCell' = true) (w : World) (htab : Tab w) (h2 : 2 < w.heap.size) :
    Calls Tryd.prog 31 #[.agg #[.int .i64 c, .int .i64 l, x]] w fun e w' => (∃ s : ByteArray, e = .returned (.string s) ∧ 1 ≤ s.size ∧ s.size ≤ 100) ∧ Below w.heap.size w w' := by
  by_cases hl : l = 0
  · subst hl; exact text_zero c x hx w
  · exact text_line c l (by simpa using hl) hok.1 hok.2 x hx w htab h2

set_option maxRecDepth 100000 in
set_option maxHeartbeats 1000000 in
theorem err_tells (w0 : World) (B cb lb : Nat) (hlt : cb < lb) (hT : Tab w0) (hB2 : 2 < B) : TellsB errStep (CapTxt w0 B cb lb) lb (.pointer (some ⟨cb, 0, none⟩)) 30 := by
  intro n v it d k w o hit hok h1 h2 ⟨sv, xs, hI, hown, hxs, hd, sa, sc, hsv⟩ hL
  subst hsv
  obtain ⟨i0, hi, hz0, hz1, hz2⟩ := info_parts Tryd.info9
  have hltw := hI.lt
  have hLlt := hL.lt
  have hTw : Tab w := tab_of hT hI.below hB2
  have h2w : 2 < w.heap.size := by have := hI.le; omega
  have HT : Hid (Tab w) := hTw
  clear hTw hT
  cases it with
  | inl q =>
    obtain ⟨c, l⟩ := q
    obtain ⟨x, hx, rfl⟩ := hit
    have hs : ∀ a m w, (store a x m).run Tryd.prog w = stored Tryd.prog w a x m := fun a m w => run_store _ w a x m hx
    have HI : Hid _ := hI
    have HL : Hid _ := hL
    have HO : Hid (w.ownsRow (lb + 1) 9 1 (.slice sa n sc) n (xs.map Value.string)) := hown
    have HX : Hid _ := hxs
    have HK : Hid _ := hok
    clear hI hL hown hxs hok
    go_enter Tryd.func30, Tryd.ntmps30
    go_wp2_with (first
      | (go_at_call 25; refine (faultOf_flt c l x _ hx).mono ?_; rintro e w1 ⟨rfl, hb⟩;
         have hc0 : w1.cell? ⟨cb, 0, none⟩ = some (.slice sa n sc) := (hb.cell (p := ⟨cb, 0, none⟩) (by simp; omega)).trans (by simp [go_sem, hltw, HI.out.cell]);
         have hf0 : w1.frozen? ⟨cb, 0, none⟩ = false := (hb.frozen (p := ⟨cb, 0, none⟩) (by simp; omega)).trans (by simp [go_sem, hltw, HI.out.frozen]);
         have hz : w.heap.size + 1 + 1 ≤ w1.heap.size := (by have := hb.size; simpa using this);
         have hlt1 : cb < w1.heap.size := (by omega);
         have hB : Below (w.heap.size + 1) (w.alloc o) w1 := ((Below.refl _ _).alloc (by simp) _).trans (hb.mono (by simp));
         have HB : Hid _ := hB; clear hb hB)
      | fail)
    go_region_law (first
      | (refine step_append_lies _ rfl _ _ 62 rfl (lb + 1) 9 i0 (.string ⟨#[]⟩) 1 16 Tryd.underlying62 hi hz0 hz1 hz2 rfl (by decide) (.slice sa n sc) n (xs.map Value.string) rfl (World.ownsRow.alloc HO2.out _) ⟨w2.heap.size, 0, none⟩ 1 1 [.string s] rfl rfl (news_one rfl) (one_str s) (by decide) (by unfold maxLen; omega) (by omega) (by simp; omega) _ rfl ?_; intro g gcap w3 hown3 hgrow3 _ hg3;
         have hM := txt_mid hlt HI.out HO.out HL.out (HB2.out.alloc (by omega) _) hgrow3;
         have HE : Hid _ := txt_end (s := s) hlt hd HX.out ⟨hs1, hs2⟩ hM hltw hown3;
         have hc3 := hM.1.cell; have hf3 := hM.1.frozen; clear hown3 hgrow3 hM)
      | (go_simp; go_at_call 31; refine (text_any c l HK.out x hx _ ?_ ?_).mono ?_; exact var?_below ((((Below.refl _ _).alloc (Nat.le_refl _) _).trans (HB.out.mono (by omega))).alloc (by omega) _).drew Tryd.g10 h2w HT.out; (simp; omega); rintro e w2 ⟨⟨s, rfl, hs1, hs2⟩, hb⟩;
         have hc2 : w2.cell? ⟨cb, 0, none⟩ = some (.slice sa n sc) := (hb.cell (p := ⟨cb, 0, none⟩) (by simp; omega)).trans (by simp [go_sem, hlt1, hc0]);
         have hf2 : w2.frozen? ⟨cb, 0, none⟩ = false := (hb.frozen (p := ⟨cb, 0, none⟩) (by simp; omega)).trans (by simp [go_sem, hlt1, hf0]);
         have hzz : w1.heap.size < w2.heap.size := (by have := hb.size; simp at this; omega); have hlt2 : cb < w2.heap.size := (by omega);
         have hB2 : Below (w.heap.size + 1) (w.alloc o) w2 := ((HB.out.alloc (by omega) _).drew).trans (hb.mono (by simp; omega)); have HO2 : Hid (w2.ownsRow (lb + 1) 9 1 (.slice sa n sc) n (xs.map Value.string)) := owns_grow HO.out (((Below.refl _ _).alloc (Nat.le_refl _) _).trans (hB2.mono (by omega))); have HB2 : Hid _ := hB2; clear hb hB2)
      | fail)
    all_goals
      go_wp2
      go_ret
      exact ⟨rfl, HE.out⟩
  | inr c =>
    obtain rfl := hit
    have HI : Hid _ := hI
    have HL : Hid _ := hL
    have HO : Hid (w.ownsRow (lb + 1) 9 1 (.slice sa n sc) n (xs.map Value.string)) := hown
    have HX : Hid _ := hxs
    have HK : Hid _ := hok
    clear hI hL hown hxs hok
    go_enter Tryd.func30, Tryd.ntmps30
    go_wp2_with (first
      | (go_at_call 25; refine (faultOf_ern c _).mono ?_; rintro e w1 ⟨rfl, hb⟩;
         have hc0 : w1.cell? ⟨cb, 0, none⟩ = some (.slice sa n sc) := (hb.cell (p := ⟨cb, 0, none⟩) (by simp; omega)).trans (by simp [go_sem, hltw, HI.out.cell]);
         have hf0 : w1.frozen? ⟨cb, 0, none⟩ = false := (hb.frozen (p := ⟨cb, 0, none⟩) (by simp; omega)).trans (by simp [go_sem, hltw, HI.out.frozen]);
         have hz : w.heap.size + 1 + 1 ≤ w1.heap.size := (by have := hb.size; simpa using this);
         have hx0 : w1.cell? ⟨w.heap.size + 1, 0, none⟩ = some (.iface 23 (.int .i64 c)) := (hb.cell (p := ⟨w.heap.size + 1, 0, none⟩) (by simp)).trans (cell_new (by simp) rfl); have hlt1 : cb < w1.heap.size := (by omega); have hlt3 : w.heap.size + 1 < w1.heap.size := (by omega);
         have hB : Below (w.heap.size + 1) (w.alloc o) w1 := ((Below.refl _ _).alloc (by simp) _).trans (hb.mono (by simp));
         have HB : Hid _ := hB; clear hb hB)
      | (go_at_call 29; refine (codeItself_ern c _).mono ?_; rintro e w1' ⟨rfl, rfl⟩)
      | fail)
    go_region_law (first
      | (refine step_append_lies _ rfl _ _ 62 rfl (lb + 1) 9 i0 (.string ⟨#[]⟩) 1 16 Tryd.underlying62 hi hz0 hz1 hz2 rfl (by decide) (.slice sa n sc) n (xs.map Value.string) rfl (World.ownsRow.alloc HO2.out _) ⟨w2.heap.size, 0, none⟩ 1 1 [.string s] rfl rfl (news_one rfl) (one_str s) (by decide) (by unfold maxLen; omega) (by omega) (by simp; omega) _ rfl ?_; intro g gcap w3 hown3 hgrow3 _ hg3;
         have hM := txt_mid hlt HI.out HO.out HL.out (HB2.out.alloc (by omega) _) hgrow3;
         have HE : Hid _ := txt_end (s := s) hlt hd HX.out ⟨hs1, hs2⟩ hM hltw hown3;
         have hc3 := hM.1.cell; have hf3 := hM.1.frozen; clear hown3 hgrow3 hM)
      | (go_simp; go_at_call 32; refine (err_any c _).mono ?_; rintro e w2 ⟨⟨s, rfl, hs1, hs2'⟩, hb⟩; have hs2 : s.size ≤ 100 := (by omega);
         have hc2 : w2.cell? ⟨cb, 0, none⟩ = some (.slice sa n sc) := (hb.cell (p := ⟨cb, 0, none⟩) (by simp; omega)).trans (by simp [go_sem, hlt1, hc0]);
         have hf2 : w2.frozen? ⟨cb, 0, none⟩ = false := (hb.frozen (p := ⟨cb, 0, none⟩) (by simp; omega)).trans (by simp [go_sem, hlt1, hf0]);
         have hzz : w1.heap.size < w2.heap.size := (by have := hb.size; simp at this; omega); have hlt2 : cb < w2.heap.size := (by omega);
         have hB2 : Below (w.heap.size + 1) (w.alloc o) w2 := ((HB.out.alloc (by omega) _).drew).trans (hb.mono (by simp; omega)); have HO2 : Hid (w2.ownsRow (lb + 1) 9 1 (.slice sa n sc) n (xs.map Value.string)) := owns_grow HO.out (((Below.refl _ _).alloc (Nat.le_refl _) _).trans (hB2.mono (by omega))); have HB2 : Hid _ := hB2; clear hb hB2)
      | fail)
    all_goals
      go_wp2
      go_ret
      exact ⟨rfl, HE.out⟩

end Go.Proofs.YtghdiflnkbkgaaaDoor
