/- What the function that Chain makes does, told one error. -/
import Derived.Test.YtghdiflnkbkgaaaDoorFh
namespace Go.Proofs.YtghdiflnkbkgaaaDoor
open Go.RowKit

theorem Tryd.info23 : (Tryd.prog.info? 23).map (fun i => (i.zero, i.size, i.bytes)) = some (some (.int .i64 0), 1, 8) := by kernel_rfl

/-- Chain: each code is put behind the others; it goes on always. -/
def chainStep (s : List Int) : Itm → Int → List Int × Bool
  | .inl (c, _), _ => (s ++ [c], true)
  | .inr c, _ => (s ++ [c], true)

/-- The captured slice owns its codes, in a row behind the count. -/
def CapRow (w0 : World) (B cb lb : Nat) (xs : List Int) (d : Int) (w : World) : Prop :=
  ∃ v, Cap w0 B cb v w ∧ w.ownsRow (lb + 1) 23 1 v xs.length (xs.map (Value.int .i64)) ∧ (xs.length : Int) < d ∧ (∃ a n c, v = .slice a n c)

theorem owns_grow {w w' : World} {base : Nat} {e : TypeId} {size : Nat} {v : Value} {n : Nat} {xs : List Value} (h : w.ownsRow base e size v n xs) (hb : Below w.heap.size w w') : w'.ownsRow base e size v n xs :=
  h.kept (row := none) ⟨hb.os, hb.tape, hb.output, hb.size, fun k hk _ => hb.block k hk⟩ (by cases hv : v.ownBlock <;> simp)

theorem owns_slice {w : World} {base : Nat} {e : TypeId} {size : Nat} {v : Value} {n : Nat} {xs : List Value} (h : w.ownsRow base e size v n xs) : ∃ a n c, v = .slice a n c := by
  rcases h.2 with ⟨rfl, _⟩ | ⟨g, cap, cur, rfl, _⟩ <;> exact ⟨_, _, _, rfl⟩

theorem keeps_row (w0 : World) (B cb lb : Nat) (hl : B ≤ lb) (hne : cb ≠ lb) : Keeps (List Int) lb (CapRow w0 B cb lb) :=
  ⟨fun _ _ _ _ ⟨v, hc, ho, hd⟩ hb => ⟨v, hc.grow hb, owns_grow ho hb, hd⟩, fun _ _ _ _ ⟨v, hc, ho, hd⟩ => ⟨v, hc.left hl hne _, ownsRow_setCell_below ho (by simp) _, hd⟩⟩

/-- Behind the append: the captured variable and the count are where they were. -/
theorem row_mid {w0 w pre w2 : World} {B cb lb : Nat} {k : Int} {o : Obj} {n : Nat} {xs : List Value} {sv : Value} (hlt : cb < lb) (hI : Cap w0 B cb sv w) (hO : w.ownsRow (lb + 1) 23 1 sv n xs) (hL : Left w lb k)
    (hb : Below (w.heap.size + 1) (w.alloc o) pre) (hg : pre.grownBy w2 sv.ownBlock) : Cap w0 B cb sv w2 ∧ Left w2 lb k ∧ w.heap.size < w2.heap.size ∧ w2.heap[w.heap.size]? = some o := by
  obtain ⟨c1, c2, c3, c4⟩ := tell_same hI hL hb
  have hB := hI.le
  have low : ∀ j, j ≤ lb → j < pre.heap.size → w2.heap[j]? = pre.heap[j]? := fun j hj hj2 => hg.block j hj2 (fun e => by have := (hO.lt j e.symm).1; omega)
  have hcb := low cb (by omega) c1.lt
  have hlb := low lb (by omega) c2.lt
  refine ⟨⟨c1.below.grown hg (by have := c1.lt; omega) (fun j hj => by have := (hO.lt j hj).1; omega), hB, Nat.lt_of_lt_of_le c1.lt hg.size, (World.cell?_of_block (a := ⟨cb, 0, none⟩) hcb).trans c1.cell, (World.frozen?_of_block (a := ⟨cb, 0, none⟩) hcb).trans c1.frozen⟩,
    ⟨Nat.lt_of_lt_of_le c2.lt hg.size, (World.cell?_of_block (a := ⟨lb, 0, none⟩) hlb).trans c2.cell, (World.frozen?_of_block (a := ⟨lb, 0, none⟩) hlb).trans c2.frozen⟩, Nat.lt_of_lt_of_le c3 hg.size, ?_⟩
  rw [hg.block w.heap.size c3 (fun e => by have := (hO.lt w.heap.size e.symm).2; omega), c4]

theorem row_end {w0 w w2 : World} {B cb lb : Nat} {k d : Int} {o : Obj} {s : List Int} {c : Int} {sv v' : Value} (hlt : cb < lb) (hd : (s.length : Int) < d)
    (h : Cap w0 B cb sv w2 ∧ Left w2 lb k ∧ w.heap.size < w2.heap.size ∧ w2.heap[w.heap.size]? = some o) (hw : cb < w.heap.size) (hown : w2.ownsRow (lb + 1) 23 1 v' (s.length + 1) (s.map (Value.int .i64) ++ [.int .i64 c])) :
    CapRow w0 B cb lb (s ++ [c]) (d + 1) (w2.setCell ⟨cb, 0, none⟩ v') ∧ Left (w2.setCell ⟨cb, 0, none⟩ v') lb k ∧ w.heap.size < (w2.setCell ⟨cb, 0, none⟩ v').heap.size ∧ (w2.setCell ⟨cb, 0, none⟩ v').heap[w.heap.size]? = some o := by
  obtain ⟨c1, c2, c3, c4⟩ := h
  refine ⟨⟨v', c1.set v', ?_, by simp; omega, owns_slice hown⟩, c2.other (by omega) _, by simpa using c3, ?_⟩
  · have := ownsRow_setCell_below hown (a := ⟨cb, 0, none⟩) (by show cb < lb + 1; omega) v'
    simpa using this
  · rw [Below.heap_setCell _ _ _ _ (by show w.heap.size ≠ cb; omega)]; exact c4

set_option maxRecDepth 100000 in
set_option maxHeartbeats 1000000 in
theorem chain_tells (w0 : World) (B cb lb : Nat) (hlt : cb < lb) : Tells chainStep (CapRow w0 B cb lb) lb (.pointer (some ⟨cb, 0, none⟩)) 28 := by
  intro s v it d k w o hit h1 h2 ⟨sv, hI, hown, hd, sa, sn, sc, hsv⟩ hL
  subst hsv
  obtain ⟨i0, hi, hz0, hz1, hz2⟩ := info_parts Tryd.info23
  have hltw := hI.lt
  have hLlt := hL.lt
  cases it with
  | inl q =>
    obtain ⟨c, l⟩ := q
    obtain ⟨x, hx, rfl⟩ := hit
    have hs : ∀ a m w, (store a x m).run Tryd.prog w = stored Tryd.prog w a x m := fun a m w => run_store _ w a x m hx
    have HI : Hid _ := hI
    have HL : Hid _ := hL
    have HO : Hid _ := hown
    clear hI hL hown
    go_enter Tryd.func28, Tryd.ntmps28
    go_wp2_with (first
      | (go_at_call 25; refine (faultOf_flt c l x _ hx).mono ?_; rintro e w1 ⟨rfl, hb⟩;
         have hc0 : w1.cell? ⟨cb, 0, none⟩ = some (.slice sa sn sc) := (hb.cell (p := ⟨cb, 0, none⟩) (by simp; omega)).trans (by simp [go_sem, hltw, HI.out.cell]);
         have hf0 : w1.frozen? ⟨cb, 0, none⟩ = false := (hb.frozen (p := ⟨cb, 0, none⟩) (by simp; omega)).trans (by simp [go_sem, hltw, HI.out.frozen]);
         have hz : w.heap.size + 1 + 1 ≤ w1.heap.size := (by have := hb.size; simpa using this);
         have hlt1 : cb < w1.heap.size := (by omega);
         have hB : Below (w.heap.size + 1) (w.alloc o) w1 := ((Below.refl _ _).alloc (by simp) _).trans (hb.mono (by simp));
         have HB : Hid _ := hB; clear hb hB)
      | (at_builtin; refine wpList_append_own _ rfl _ _ 36 rfl (lb + 1) 23 i0 (.int .i64 0) 1 8 Tryd.underlying36 hi hz0 hz1 hz2 rfl (by decide) _ s.length (s.map (Value.int .i64)) rfl ?c0 ⟨w1.heap.size + 1, 0, none⟩ 1 1 [.int .i64 c] rfl rfl ?c1 ?c2 ?c3 ?c4 ?c5 ?_)
      | fail)
    case c0 => exact ((owns_grow HO.out (((Below.refl _ _).alloc (Nat.le_refl _) _).trans (HB.out.mono (by omega)))).alloc _).alloc _
    case c1 =>
      intro j u hj
      match j, hj with
      | 0, hj => simp at hj; subst hj; exact cell_new (by simp) rfl
    case c2 => intro u hu; simp at hu; subst hu; rfl
    case c3 => unfold maxLen; omega
    case c4 => omega
    case c5 => simp; omega
    intro v' w2 hown' hgrow _
    have hM := row_mid hlt HI.out HO.out HL.out (((HB.out).alloc (by omega) _).alloc (by simp; omega) _) hgrow
    have hE := row_end (c := c) hlt hd hM hltw hown'
    obtain ⟨a', n', c', rfl⟩ := owns_slice hown'
    have hc2 := hM.1.cell
    have hf2 := hM.1.frozen
    have HE : Hid _ := hE
    clear hM hE hown' hgrow hc0 hf0
    go_wp2_with fail
    go_ret
    exact ⟨rfl, HE.out⟩
  | inr c =>
    obtain rfl := hit
    have HI : Hid _ := hI
    have HL : Hid _ := hL
    have HO : Hid _ := hown
    clear hI hL hown
    go_enter Tryd.func28, Tryd.ntmps28
    go_wp2_with (first
      | (go_at_call 25; refine (faultOf_ern c _).mono ?_; rintro e w1 ⟨rfl, hb⟩;
         have hc0 : w1.cell? ⟨cb, 0, none⟩ = some (.slice sa sn sc) := (hb.cell (p := ⟨cb, 0, none⟩) (by simp; omega)).trans (by simp [go_sem, hltw, HI.out.cell]);
         have hf0 : w1.frozen? ⟨cb, 0, none⟩ = false := (hb.frozen (p := ⟨cb, 0, none⟩) (by simp; omega)).trans (by simp [go_sem, hltw, HI.out.frozen]);
         have hx0 : w1.cell? ⟨w.heap.size + 1, 0, none⟩ = some (.iface 23 (.int .i64 c)) := (hb.cell (p := ⟨w.heap.size + 1, 0, none⟩) (by simp)).trans (cell_new (by simp) rfl);
         have hz : w.heap.size + 1 + 1 ≤ w1.heap.size := (by have := hb.size; simpa using this);
         have hlt1 : cb < w1.heap.size := (by omega); have hlt2 : w.heap.size + 1 < w1.heap.size := (by omega);
         have hB : Below (w.heap.size + 1) (w.alloc o) w1 := ((Below.refl _ _).alloc (by simp) _).trans (hb.mono (by simp));
         have HB : Hid _ := hB; clear hb hB)
      | (go_at_call 29; refine (codeItself_ern c _).mono ?_; rintro e w1' ⟨rfl, rfl⟩)
      | (at_builtin; refine wpList_append_own _ rfl _ _ 36 rfl (lb + 1) 23 i0 (.int .i64 0) 1 8 Tryd.underlying36 hi hz0 hz1 hz2 rfl (by decide) _ s.length (s.map (Value.int .i64)) rfl ?c0 ⟨w1.heap.size + 1, 0, none⟩ 1 1 [.int .i64 c] rfl rfl ?c1 ?c2 ?c3 ?c4 ?c5 ?_)
      | fail)
    case c0 => exact ((owns_grow HO.out (((Below.refl _ _).alloc (Nat.le_refl _) _).trans (HB.out.mono (by omega)))).alloc _).alloc _
    case c1 =>
      intro j u hj
      match j, hj with
      | 0, hj => simp at hj; subst hj; exact cell_new (by simp) rfl
    case c2 => intro u hu; simp at hu; subst hu; rfl
    case c3 => unfold maxLen; omega
    case c4 => omega
    case c5 => simp; omega
    intro v' w2 hown' hgrow _
    have hM := row_mid hlt HI.out HO.out HL.out (((HB.out).alloc (by omega) _).alloc (by simp; omega) _) hgrow
    have hE := row_end (c := c) hlt hd hM hltw hown'
    obtain ⟨a', n', c', rfl⟩ := owns_slice hown'
    have hc2 := hM.1.cell
    have hf2 := hM.1.frozen
    have HE : Hid _ := hE
    clear hM hE hown' hgrow hc0 hf0
    go_wp2_with fail
    go_ret
    exact ⟨rfl, HE.out⟩
end Go.Proofs.YtghdiflnkbkgaaaDoor
