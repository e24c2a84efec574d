/- The reference's New. -/
import Derived.Deep.LoopGhost
import Derived.Deep.QuietTactic
import Derived.BigQuiet
import Derived.Test.YtmnemandmpoioaaAj
namespace Go.Proofs.Ytmnemandmpoioaa
open Go.RowKit Fl

/-- A list of the call's own: its elements' type and size, the value, the length, the cells. -/
structure Rw where
  e : TypeId
  z : Nat
  v : Value
  n : Nat
  xs : List Value
def Rw.own (r : Rw) (w : World) : Prop := w.ownsRow 0 r.e r.z r.v r.n r.xs
def Apart (a b : Rw) : Prop := ∀ k, a.v.ownBlock = some k → b.v.ownBlock ≠ some k
theorem Apart.symm {a b : Rw} (h : Apart a b) : Apart b a := fun k hk e => h k e hk
/-- Four lists that lie apart. -/
structure Four (w0 w : World) (a b c d : Rw) : Prop where
  oa : a.own w
  ob : b.own w
  oc : c.own w
  od : d.own w
  la : ∀ k, a.v.ownBlock = some k → w0.heap.size ≤ k
  lb : ∀ k, b.v.ownBlock = some k → w0.heap.size ≤ k
  lc : ∀ k, c.v.ownBlock = some k → w0.heap.size ≤ k
  ld : ∀ k, d.v.ownBlock = some k → w0.heap.size ≤ k
  ab : Apart a b
  ac : Apart a c
  ad : Apart a d
  bc : Apart b c
  bd : Apart b d
  cd : Apart c d
  bt : Below w0.heap.size w0 w
section
variable {w0 w w1 : World} {a b c d a' : Rw}
theorem Four.s2 (h : Four w0 w a b c d) : Four w0 w b a c d := ⟨h.ob, h.oa, h.oc, h.od, h.lb, h.la, h.lc, h.ld, h.ab.symm, h.bc, h.bd, h.ac, h.ad, h.cd, h.bt⟩
theorem Four.s3 (h : Four w0 w a b c d) : Four w0 w c b a d := ⟨h.oc, h.ob, h.oa, h.od, h.lc, h.lb, h.la, h.ld, h.bc.symm, h.ac.symm, h.cd, h.ab.symm, h.bd, h.ad, h.bt⟩
theorem Four.s4 (h : Four w0 w a b c d) : Four w0 w d b c a := ⟨h.od, h.ob, h.oc, h.oa, h.ld, h.lb, h.lc, h.la, h.bd.symm, h.cd.symm, h.ad.symm, h.bc, h.ab.symm, h.ac.symm, h.bt⟩
theorem Four.keep (h : Four w0 w a b c d) (hb : Below w.heap.size w w1) : Four w0 w1 a b c d :=
  { h with oa := owns_same h.oa hb, ob := owns_same h.ob hb, oc := owns_same h.oc hb, od := owns_same h.od hb, bt := h.bt.trans (hb.mono h.bt.size) }
theorem Four.alo (h : Four w0 w a b c d) (o : Obj) : Four w0 (w.alloc o) a b c d := h.keep ((Below.refl _ _).alloc (Nat.le_refl _) _)
theorem own_kept {r : Rw} {row : Option Nat} (h : r.own w) (hg : w.grownBy w1 row) (hn : ∀ k, row = some k → r.v.ownBlock ≠ some k) : r.own w1 := by
  refine World.ownsRow.kept h hg ?_
  cases hr : r.v.ownBlock with
  | none => exact .inl rfl
  | some k => exact .inr fun e => hn k e.symm hr
/-- The first of them has grown. -/
theorem Four.one (h : Four w0 w a b c d) (hown : a'.own w1) (hg : w.grownBy w1 a.v.ownBlock) (hb : a'.v.ownBlock = a.v.ownBlock ∨ ∀ k, a'.v.ownBlock = some k → w.heap.size ≤ k) : Four w0 w1 a' b c d := by
  have hs := h.bt.size
  have ap : ∀ r : Rw, r.own w → Apart a r → Apart a' r := by
    intro r hr har k hk e
    rcases hb with e2 | e2
    · exact har k (e2 ▸ hk) e
    · have := e2 k hk
      have := (World.ownsRow.lt hr k e).2
      omega
  refine ⟨hown, own_kept h.ob hg h.ab, own_kept h.oc hg h.ac, own_kept h.od hg h.ad, fun k hk => ?_, h.lb, h.lc, h.ld, ap _ h.ob h.ab, ap _ h.oc h.ac, ap _ h.od h.ad, h.bc, h.bd, h.cd, h.bt.grown hg hs h.la⟩
  rcases hb with e2 | e2
  · exact h.la k (e2 ▸ hk)
  · have := e2 k hk; omega
/-- The first of them is a new one. -/
theorem Four.new (h : Four w0 w a b c d) (hown : a'.own w1) (hb : Below w.heap.size w w1) (hl : ∀ k, a'.v.ownBlock = some k → w.heap.size ≤ k) : Four w0 w1 a' b c d := by
  have h2 := h.keep hb
  have hs := h.bt.size
  have ap : ∀ r : Rw, r.own w → Apart a' r := by
    intro r hr k hk e
    have := hl k hk
    have := (World.ownsRow.lt hr k e).2
    omega
  exact ⟨hown, h2.ob, h2.oc, h2.od, fun k hk => Nat.le_trans hs (hl k hk), h.lb, h.lc, h.ld, ap _ h.ob, ap _ h.oc, ap _ h.od, h.bc, h.bd, h.cd, h2.bt⟩
end
/-- Numbers of a list, the last first, as cells. -/
def lst (L : List Nat) : List Value := L.reverse.map fun x : Nat => Value.int .i64 (x : Int)
theorem lst_len (L : List Nat) : (lst L).length = L.length := by simp [lst]
theorem lst_more (x : Nat) (L : List Nat) : lst (x :: L) = lst L ++ [.int .i64 (x : Int)] := by simp [lst]
theorem lst_top (x : Nat) (L : List Nat) : (lst (x :: L))[L.length]? = some (.int .i64 (x : Int)) := by
  rw [lst_more, List.getElem?_append_right (by rw [lst_len]; omega), lst_len]; simp
theorem lst_one (L : List Nat) : ∀ u ∈ lst L, u.oneCell' = true := by
  intro u hu
  obtain ⟨x, _, rfl⟩ := List.mem_map.1 hu
  rfl
theorem lst_news {w : World} {g c x : Nat} {L : List Nat} (h : w.ownsRow 0 3 1 (.slice (some ⟨g, 0, none⟩) (x :: L).length c) (x :: L).length (lst (x :: L))) : ∀ j u, (lst L)[j]? = some u → w.cell? ((⟨g, 0, none⟩ : Addr).add j) = some u := fun j u hu =>
  owns_news h j u (by rw [lst_more, List.getElem?_append_left (List.getElem?_eq_some_iff.1 hu).1]; exact hu)
theorem below_fresh {w w1 : World} {o : Obj} {n c : Nat} (hg : (w.alloc o).grownBy w1 (Value.ownBlock (.slice (some ⟨w.heap.size, 0, none⟩) n c))) : Below w.heap.size w w1 :=
  ((Below.refl _ _).alloc (Nat.le_refl _) o).grown hg (by simp) (fun k hk => by simp [Value.ownBlock] at hk; omega)
theorem fresh_ge {w : World} {n c : Nat} {v' : Value} (hb : v'.ownBlock = Value.ownBlock (.slice (some ⟨w.heap.size, 0, none⟩) n c) ∨ ∀ k, v'.ownBlock = some k → w.heap.size + 1 ≤ k) : ∀ k, v'.ownBlock = some k → w.heap.size ≤ k := by
  intro k hk
  rcases hb with e | e
  · rw [e] at hk; simp [Value.ownBlock] at hk; omega
  · have := e k hk; omega
theorem owns_cap {w : World} {base : Nat} {e : TypeId} {size : Nat} {ao : Option Addr} {n cap : Nat} {xs : List Value} (h : w.ownsRow base e size (.slice ao n cap) n xs) : n ≤ cap := by
  rcases h.2 with ⟨h2, h3⟩ | ⟨g, c, cur, hv, hg, hh, h1, r⟩
  · omega
  · simp only [Value.slice.injEq] at hv
    omega
theorem owns_fix {w : World} {v : Value} {L : List Nat} (h : w.ownsRow 0 3 1 v L.length (lst L)) : (⟨3, 1, v, L.length, lst L⟩ : Rw).own w := h
def rC (v : Value) (n : Nat) (TH : Nat → Int) (AL : Nat → Nat) : Rw := ⟨35, 2, v, n, cols n TH AL⟩
def rI (v : Value) (n : Nat) (f : Nat → Int) : Rw := ⟨3, 1, v, n, vals n f⟩
def rL (v : Value) (L : List Nat) : Rw := ⟨3, 1, v, L.length, lst L⟩

theorem vals_succ (n : Nat) (f : Nat → Int) : vals (n + 1) f = vals n f ++ [.int .i64 (f n)] := by unfold vals; rw [List.range_succ, List.map_append]; rfl
theorem col_news {w : World} {b : Nat} {x y : Value} {t : TypeId} (h : Lp.Bk w b #[x, y] t) : ∀ j u, [x, y][j]? = some u → w.cell? ((⟨b, 0, none⟩ : Addr).add j) = some u := by
  intro j u hj
  rw [addr_off, Nat.zero_add, h.cell]
  match j, hj with
  | 0, hj => exact hj
  | 1, hj => exact hj
  | j + 2, hj => simp at hj
theorem two_int (x y : Int) : ∀ u ∈ [Value.int .i64 x, .int .i64 y], u.oneCell' = true := by
  intro u hu
  simp at hu
  rcases hu with rfl | rfl <;> rfl

theorem Four.start (w : World) (t : Int) (H : Nat → Int) : Four w w (rC (.slice none 0 0) 0 (fun _ => t) (fun i => i)) (rI (.slice none 0 0) 0 H) (rL (.slice none 0 0) []) (rL (.slice none 0 0) []) :=
  ⟨World.ownsRow_nil _ _ _ _, World.ownsRow_nil _ _ _ _, World.ownsRow_nil _ _ _ _, World.ownsRow_nil _ _ _ _, fun k h => (by cases h), fun k h => (by cases h), fun k h => (by cases h), fun k h => (by cases h), fun k h => (by cases h), fun k h => (by cases h), fun k h => (by cases h), fun k h => (by cases h), fun k h => (by cases h), fun k h => (by cases h), Below.refl _ _⟩

set_option maxRecDepth 100000 in
set_option maxHeartbeats 4000000 in
theorem rnew_first (n c : Nat) (ao : Option Addr) (f : Nat → Int) (w : World) (h : Nms w ao n f) (hn : n ≤ 60) (h0 : 0 < n) (hf : ∀ i, i < n → 0 ≤ f i ∧ f i ≤ 1048576) (tot : Int) (ht : 0 ≤ tot ∧ tot ≤ 1073741824) : Calls Try.prog 9 #[.slice ao n c, .int .i64 tot] w fun e w' => ∃ g c', e = .returned (.slice (some ⟨g, 0, none⟩) n c') ∧ w'.ownsRow 0 35 2 (.slice (some ⟨g, 0, none⟩) n c') n (cols n (colsF tot n f).1 (colsF tot n f).2) ∧ Below w.heap.size w w' := by
  obtain ⟨g, off, rfl, hI⟩ : ∃ g off, ao = some ⟨g, off, none⟩ ∧ Rdo w g off n f := h.resolve_left (by omega)
  obtain ⟨i0, hi, hz0, hz1, hz2⟩ := info_int
  obtain ⟨j0, hj, jz0, jz1, jz2⟩ := info_col
  have HI := hid hI
  have HF := hid hf
  have hH : ∀ i, i < n → 0 ≤ hasF n f i ∧ hasF n f i ≤ 62914560 := fun i hi => by
    have := hf i hi
    have a := Int.mul_nonneg this.1 (show (0 : Int) ≤ n by omega)
    have b := Int.mul_le_mul this.2 (show (n : Int) ≤ 60 by omega) (by omega) (by decide)
    unfold hasF
    omega
  have HH := hid hH
  have HST := hid (Four.start w tot (hasF n f))
  have HHE := hid (fun j => show f j * (n : Int) = hasF n f j from rfl)
  clear h hI hf hH
  go_enter Try.func9, Try.ntmps9
  go_wp2_with fail
  go_loopg [5, 6, 7, 8, 9] n (fun k lv hv gv yv i wr => ∃ (j : Nat) (al : Option Addr) (cl : Nat) (ah : Option Addr) (ch : Nat) (ag : Option Addr) (cg : Nat) (ay : Option Addr) (cy : Nat), k + j = n ∧ i = .int .i64 (j : Int) ∧ lv = .slice al j cl ∧ hv = .slice ah j ch ∧ gv = .slice ag (lights tot (hasF n f) j).length cg ∧ yv = .slice ay (heavies tot (hasF n f) j).length cy ∧
    Four w wr (rC (.slice al j cl) j (fun _ => tot) (fun i => i)) (rI (.slice ah j ch) j (hasF n f)) (rL (.slice ag (lights tot (hasF n f) j).length cg) (lights tot (hasF n f) j)) (rL (.slice ay (heavies tot (hasF n f) j).length cy) (heavies tot (hasF n f) j)))
  case atStart => exact ⟨0, none, 0, none, 0, none, 0, none, 0, by omega, rfl, rfl, rfl, rfl, rfl, HST.out⟩
  case round =>
    clear HST
    obtain ⟨g0, hg0⟩ : ∃ g0, g0 = gk := ⟨_, rfl⟩
    subst hg0
    obtain ⟨j, al, cl, ah, ch, ag, cg, ay, cy, hk, rfl, rfl, rfl, rfl, rfl, hS⟩ := hrel
    have HK := aside hk
    have HS := hid hS
    have hlen := both_len tot (hasF n f) j
    clear hk hS
    by_cases hj' : j < n
    · have hd : ((j : Int) < (n : Int)) = True := eq_true (by omega)
      have kI := (HI.out.keep HS.out.bt).cell hj'
      have hp := HH.out j hj'
      have HE := aside (HHE.out j)
      rw [← HE.out] at hp
      have hlx : lights tot (hasF n f) (j + 1) = if f j * n < tot then j :: lights tot (hasF n f) j else lights tot (hasF n f) j := rfl
      have hhx : heavies tot (hasF n f) (j + 1) = if f j * n < tot then heavies tot (hasF n f) j else j :: heavies tot (hasF n f) j := rfl
      have HLX := aside hlx
      have HHX := aside hhx
      clear hlx hhx
      generalize hLg : lights tot (hasF n f) j = L at *
      generalize hVg : heavies tot (hasF n f) j = V at *
      clear hLg hVg
      generalize f j = x at *
      obtain ⟨p0, p1⟩ := hp
      go_wp2_with (first
        | (at_builtin; refine wpList_push _ rfl _ _ 22 rfl 3 i0 (.int .i64 0) 1 8 under_ints hi hz0 hz1 hz2 rfl (by decide) (.slice ah j ch) j (vals j (hasF n f)) rfl (HS.out.alo (.cells #[.int .i64 (x * n)] 3)).ob ⟨wr.heap.size, 0, none⟩ 1 1 [.int .i64 (x * n)] rfl rfl (news_one ((Lp.Bk.al wr #[.int .i64 (x * n)] 3).cell 0)) (one_int _) (max_small (by omega)) (by omega) ?_)
        | fail)
      intro v' w1 hown hg hb
      obtain ⟨ah1, ch1, rfl, -⟩ := owns_slice hown
      have HS1 := hid ((HS.out.alo (.cells #[.int .i64 (x * n)] 3)).s2.one (a' := rI (.slice ah1 (j + 1) ch1) (j + 1) (hasF n f)) (owns_more hown HE.out.symm) hg (hb.imp id fun h k hk => by have := h k hk; simpa using this)).s2
      clear hown hg hb
      go_wp2_with (first
        | (at_builtin; refine wpList_push _ rfl _ _ 29 rfl 35 j0 (.agg #[.int .i64 0, .int .i64 0]) 2 16 under_cols hj jz0 jz1 jz2 rfl (by decide) (.slice al j cl) j (cols j (fun _ => tot) (fun i => i)) rfl (HS1.out.alo (.cells #[.int .i64 tot, .int .i64 j] 35)).oa ⟨w1.heap.size, 0, none⟩ 1 1 [.int .i64 tot, .int .i64 j] rfl rfl (col_news (Lp.Bk.al w1 #[.int .i64 tot, .int .i64 (j : Int)] 35)) (two_int _ _) (max_small (by omega)) (by omega) ?_)
        | fail)
      intro v' w2 hown hg hb
      obtain ⟨al1, cl1, rfl, -⟩ := owns_slice hown
      have HS2 := hid ((HS1.out.alo (.cells #[.int .i64 tot, .int .i64 (j : Int)] 35)).one (a' := rC (.slice al1 (j + 1) cl1) (j + 1) (fun _ => tot) (fun i => i)) (by rw [← cols_succ j (fun _ => tot) (fun i => i)] at hown; exact hown) hg (hb.imp id fun h k hk => by have := h k hk; simpa using this))
      clear hown hg hb HS HS1 kI
      by_cases hl : x * n < tot
      · have hd2 : (x * (n : Int) < tot) = True := eq_true hl
        have HLX2 := aside (HLX.out.trans (if_pos hl))
        have HHX2 := aside (HHX.out.trans (if_pos hl))
        clear HLX HHX
        go_wp2_with (first
          | (at_builtin; refine wpList_push _ rfl _ _ 22 rfl 3 i0 (.int .i64 0) 1 8 under_ints hi hz0 hz1 hz2 rfl (by decide) (.slice ag L.length cg) L.length (lst L) rfl (HS2.out.alo (.cells #[.int .i64 j] 3)).oc ⟨w2.heap.size, 0, none⟩ 1 1 [.int .i64 j] rfl rfl (news_one ((Lp.Bk.al w2 #[.int .i64 j] 3).cell 0)) (one_int _) (max_small (by omega)) (by omega) ?_)
          | fail)
        intro v' w3 hown hg hb
        obtain ⟨ag1, cg1, rfl, -⟩ := owns_slice hown
        have HS3 := hid ((HS2.out.alo (.cells #[.int .i64 j] 3)).s3.one (a' := rL (.slice ag1 (L.length + 1) cg1) (j :: L)) (by rw [← lst_more] at hown; exact hown) hg (hb.imp id fun h k hk => by have := h k hk; simpa using this)).s3
        clear hown hg hb HS2
        go_wp2_with fail
        go_roundg (g0 - 1)
        case measure => have := HK.out; omega
        case rel => exact ⟨j + 1, _, _, _, _, _, _, _, _, by have := HK.out; omega, by go_num, rfl, rfl, by rw [HLX2.out]; rfl, by rw [HHX2.out], by rw [HLX2.out, HHX2.out]; exact HS3.out⟩
      · have hd2 : (x * (n : Int) < tot) = False := eq_false hl
        have HLX2 := aside (HLX.out.trans (if_neg hl))
        have HHX2 := aside (HHX.out.trans (if_neg hl))
        clear HLX HHX
        go_wp2_with (first
          | (at_builtin; refine wpList_push _ rfl _ _ 22 rfl 3 i0 (.int .i64 0) 1 8 under_ints hi hz0 hz1 hz2 rfl (by decide) (.slice ay V.length cy) V.length (lst V) rfl (HS2.out.alo (.cells #[.int .i64 j] 3)).od ⟨w2.heap.size, 0, none⟩ 1 1 [.int .i64 j] rfl rfl (news_one ((Lp.Bk.al w2 #[.int .i64 j] 3).cell 0)) (one_int _) (max_small (by omega)) (by omega) ?_)
          | fail)
        intro v' w3 hown hg hb
        obtain ⟨ay1, cy1, rfl, -⟩ := owns_slice hown
        have HS3 := hid ((HS2.out.alo (.cells #[.int .i64 j] 3)).s4.one (a' := rL (.slice ay1 (V.length + 1) cy1) (j :: V)) (by rw [← lst_more] at hown; exact hown) hg (hb.imp id fun h k hk => by have := h k hk; simpa using this)).s4
        clear hown hg hb HS2
        go_wp2_with fail
        go_roundg (g0 - 1)
        case measure => have := HK.out; omega
        case rel => exact ⟨j + 1, _, _, _, _, _, _, _, _, by have := HK.out; omega, by go_num, rfl, rfl, by rw [HLX2.out], by rw [HHX2.out]; rfl, by rw [HLX2.out, HHX2.out]; exact HS3.out⟩
    · have hd : ((j : Int) < (n : Int)) = False := eq_false (by omega)
      have hjn : j = n := by have := HK.out; omega
      subst hjn
      have HLS := hid (lists_start (t := tot) (M := 62914560) (fun i hi => (HH.out i hi).1) (fun i hi => (HH.out i hi).2))
      have HFN := aside (show fin tot ((lights tot (hasF j f) j).length + (heavies tot (hasF j f) j).length) (hasF j f) (fun _ => tot) (fun i => i) (lights tot (hasF j f) j) (heavies tot (hasF j f) j) = colsF tot j f by rw [both_len]; rfl)
      clear HHE HI HF HH
      generalize lights tot (hasF j f) j = L0 at *
      generalize heavies tot (hasF j f) j = V0 at *
      generalize hasF j f = H0 at *
      go_wp2_with fail
      go_loopg [5, 6, 7, 8] j (fun k lv hv gv yv wr => ∃ (L V : List Nat) (H TH : Nat → Int) (AL : Nat → Nat) (al : Option Addr) (cl : Nat) (ah : Option Addr) (ch : Nat) (ag : Option Addr) (cg : Nat) (ay : Option Addr) (cy : Nat), k = L.length + V.length ∧ lv = .slice al j cl ∧ hv = .slice ah j ch ∧ gv = .slice ag L.length cg ∧ yv = .slice ay V.length cy ∧ L.length + V.length ≤ j ∧
        Four w wr (rC (.slice al j cl) j TH AL) (rI (.slice ah j ch) j H) (rL (.slice ag L.length cg) L) (rL (.slice ay V.length cy) V) ∧ Lists tot 62914560 j H L V ∧ fin tot (L.length + V.length) H TH AL L V = colsF tot j f)
      case atStart => exact ⟨L0, V0, H0, _, _, _, _, _, _, _, _, _, _, hlen.symm, rfl, rfl, rfl, rfl, Nat.le_of_eq hlen, HS.out, HLS.out, HFN.out⟩
      case round =>
        clear HS HLS HFN hlen
        obtain ⟨g1, hg1⟩ : ∃ g1, g1 = gk := ⟨_, rfl⟩
        subst hg1
        obtain ⟨L, V, H, TH, AL, al, cl, ah, ch, ag, cg, ay, cy, hk, rfl, rfl, rfl, rfl, hn2, hS, hL, hF⟩ := hrel
        have HK2 := aside hk
        have HS := hid hS
        have HL := hid hL
        have HF := aside hF
        clear hk hS hL hF
        cases L with
        | nil =>
          have HF2 := aside ((fin_none _ _ _ _ _ _).symm.trans HF.out)
          obtain ⟨gl, rfl, hl1⟩ := owns_blk HS.out.oa h0
          have HO := hid (show wr.ownsRow 0 35 2 (.slice (some ⟨gl, 0, none⟩) j cl) j (cols j TH AL) from HS.out.oa)
          go_wp2_with fail
          go_ret
          have hO := HO.out
          rw [← HF2.out]
          exact ⟨gl, cl, rfl, hO, HS.out.bt⟩
        | cons x L =>
          cases V with
          | nil =>
            have HF2 := aside ((fin_last _ _ _ _ _ _).symm.trans HF.out)
            obtain ⟨gl, rfl, hl1⟩ := owns_blk HS.out.oa h0
            have HO := hid (show wr.ownsRow 0 35 2 (.slice (some ⟨gl, 0, none⟩) j cl) j (cols j TH AL) from HS.out.oa)
            go_wp2_with fail
            go_ret
            have hO := HO.out
            rw [← HF2.out]
            exact ⟨gl, cl, rfl, hO, HS.out.bt⟩
          | cons y V =>
            obtain ⟨x0, x1, x2⟩ := HL.out.lt x (by simp)
            obtain ⟨y0, y1, y2⟩ := HL.out.hv y (by simp)
            have hln : L.length + 1 + (V.length + 1) ≤ j := hn2
            obtain ⟨gl, rfl, hl1⟩ := owns_blk HS.out.oa (by omega)
            obtain ⟨gh, rfl, hl2⟩ := owns_blk HS.out.ob (by omega)
            obtain ⟨gg, rfl, hl3⟩ := owns_blk HS.out.oc (by simp)
            obtain ⟨gy, rfl, hl4⟩ := owns_blk HS.out.od (by simp)
            have kX := (World.ownsRow.cellAt HS.out.oc L.length (show L.length < (x :: L).length * 1 by simp)).trans (lst_top x L)
            have kY := (World.ownsRow.cellAt HS.out.od V.length (show V.length < (y :: V).length * 1 by simp)).trans (lst_top y V)
            have kHx := (World.ownsRow.cellAt HS.out.ob x (show x < j * 1 by omega)).trans (vals_at x0)
            have hcg : L.length + 1 ≤ cg := owns_cap HS.out.oc
            have hcy : V.length + 1 ≤ cy := owns_cap HS.out.od
            have hdx : ((x : Int) < (j : Int)) = True := eq_true (by omega)
            have hdy : ((y : Int) < (j : Int)) = True := eq_true (by omega)
            clear hn2
            go_wp2_with (first
              | (at_builtin; refine wpList_push _ rfl _ _ 22 rfl 3 i0 (.int .i64 0) 1 8 under_ints hi hz0 hz1 hz2 rfl (by decide) (.slice (some ⟨wr.heap.size, 0, none⟩) 0 0) 0 [] rfl (World.ownsRow_lit wr #[] 0 (Nat.zero_le _) (by decide) rfl) ⟨gg, 0, none⟩ L.length cg (lst L) rfl (by rw [lst_len]; omega) (lst_news (HS.out.alo (.cells #[] 3)).oc) (lst_one L) (max_small (by omega)) (by omega) ?_)
              | fail)
            intro v' w1 hown hg hb
            obtain ⟨ag1, cg1, rfl, -⟩ := owns_slice hown
            have HS1 := hid (HS.out.s3.new (a' := rL (.slice ag1 L.length cg1) L) (owns_fix hown) (below_fresh hg) (fresh_ge hb)).s3
            clear hown hg hb kX kY kHx
            have kHx := (World.ownsRow.cellAt HS1.out.ob x (show x < j * 1 by omega)).trans (vals_at x0)
            have HP := hid (rput_any j gl cl x y TH AL (H x) w1 HS1.out.oa x0 (by omega))
            go_wp2_with fail
            refine Calls.mono HP.out ?_
            rintro e w2 ⟨g', c', rfl, hge, hown, hb⟩
            have HS2 := hid (HS1.out.new (a' := rC (.slice (some ⟨g', 0, none⟩) j c') j (upd TH x (H x)) (upd AL x y)) hown hb (fun k hk => by cases hk; exact hge))
            clear hge hown hb kHx HP HS1
            have kHx := (World.ownsRow.cellAt HS2.out.ob x (show x < j * 1 by omega)).trans (vals_at x0)
            have kHy := (World.ownsRow.cellAt HS2.out.ob y (show y < j * 1 by omega)).trans (vals_at y0)
            have hw1 : IntKind.i64.wrap (tot - H x) = tot - H x := by rw [IntKind.wrap_i64]; omega
            have hw2 : IntKind.i64.wrap (H y - (tot - H x)) = H y - (tot - H x) := by rw [IntKind.wrap_i64]; omega
            go_wp2_with fail
            go_quiet (fail)
            have HS3 := hid (HS2.out.keep (below_dr (Below.refl _ _) nq))
            generalize w2.drewN nq = w3 at *
            clear HS2 kHx kHy hw1 hw2
            have HQ := hid (rset_any j gh ch y H (H y - (tot - H x)) w3 HS3.out.ob y0 (by omega))
            go_wp2_with fail
            refine Calls.mono HQ.out ?_
            rintro e w4 ⟨gh', ch', rfl, hge, hown, hb⟩
            have HS4 := hid (HS3.out.s2.new (a' := rI (.slice (some ⟨gh', 0, none⟩) j ch') j (upd H y (H y - (tot - H x)))) hown hb (fun k hk => by cases hk; exact hge)).s2
            clear hge hown hb HQ HS3
            by_cases hl : H y - (tot - H x) < tot
            · have HF3 := aside (fin_light (k := L.length + V.length + 1) (T := TH) (A := AL) (L := L) (V := V) hl)
              have HF4 := aside (show fin tot (L.length + 1 + (V.length + 1)) H TH AL (x :: L) (y :: V) = colsF tot j f from HF.out)
              have HL2 := hid (HL.out.stepL hl)
              clear HF HL
              generalize H y - (tot - H x) = z at *
              have hdl : (z < tot) = True := eq_true hl
              go_wp2_with (first
                | (at_builtin; refine wpList_push _ rfl _ _ 22 rfl 3 i0 (.int .i64 0) 1 8 under_ints hi hz0 hz1 hz2 rfl (by decide) (.slice (some ⟨w4.heap.size, 0, none⟩) 0 0) 0 [] rfl (World.ownsRow_lit w4 #[] 0 (Nat.zero_le _) (by decide) rfl) ⟨gy, 0, none⟩ V.length cy (lst V) rfl (by rw [lst_len]; omega) (lst_news (HS4.out.alo (.cells #[] 3)).od) (lst_one V) (max_small (by omega)) (by omega) ?_)
                | fail)
              intro v' w5 hown hg hb
              obtain ⟨ay1, cy1, rfl, -⟩ := owns_slice hown
              have HS5 := hid (HS4.out.s4.new (a' := rL (.slice ay1 V.length cy1) V) (owns_fix hown) (below_fresh hg) (fresh_ge hb)).s4
              clear hown hg hb HS4
              go_wp2_with (first
                | (at_builtin; refine wpList_push _ rfl _ _ 22 rfl 3 i0 (.int .i64 0) 1 8 under_ints hi hz0 hz1 hz2 rfl (by decide) (.slice ag1 L.length cg1) L.length (lst L) rfl (HS5.out.alo (.cells #[.int .i64 y] 3)).oc ⟨w5.heap.size, 0, none⟩ 1 1 [.int .i64 y] rfl rfl (news_one ((Lp.Bk.al w5 #[.int .i64 y] 3).cell 0)) (one_int _) (max_small (by omega)) (by omega) ?_)
                | fail)
              intro v' w6 hown hg hb
              obtain ⟨ag2, cg2, rfl, -⟩ := owns_slice hown
              have HS6 := hid ((HS5.out.alo (.cells #[.int .i64 y] 3)).s3.one (a' := rL (.slice ag2 (L.length + 1) cg2) (y :: L)) (by rw [← lst_more] at hown; exact hown) hg (hb.imp id fun h k hk => by have := h k hk; simpa using this)).s3
              clear hown hg hb HS5
              go_wp2_with fail
              go_roundg (g1 - 1)
              case measure => have := HK2.out; simp only [List.length_cons] at this; omega
              case rel =>
                exact ⟨y :: L, V, _, _, _, _, _, _, _, _, _, _, _, by have := HK2.out; simp only [List.length_cons] at this ⊢; omega, rfl, rfl, rfl, rfl, by simp only [List.length_cons]; omega, HS6.out, HL2.out,
                  by have h := HF4.out; rw [show L.length + 1 + (V.length + 1) = L.length + V.length + 1 + 1 by omega, HF3.out] at h; rw [show (y :: L).length + V.length = L.length + V.length + 1 by simp only [List.length_cons]; omega]; exact h⟩
            · have HF3 := aside (fin_heavy (k := L.length + V.length + 1) (T := TH) (A := AL) (L := L) (V := V) hl)
              have HF4 := aside (show fin tot (L.length + 1 + (V.length + 1)) H TH AL (x :: L) (y :: V) = colsF tot j f from HF.out)
              have HL2 := hid (HL.out.stepV hl)
              clear HF HL
              generalize H y - (tot - H x) = z at *
              have hdl : (z < tot) = False := eq_false hl
              go_wp2_with fail
              go_roundg (g1 - 1)
              case measure => have := HK2.out; simp only [List.length_cons] at this; omega
              case rel =>
                exact ⟨L, y :: V, _, _, _, _, _, _, _, _, _, _, _, by have := HK2.out; simp only [List.length_cons] at this ⊢; omega, rfl, rfl, rfl, rfl, by simp only [List.length_cons]; omega, HS4.out, HL2.out,
                  by have h := HF4.out; rw [show L.length + 1 + (V.length + 1) = L.length + V.length + 1 + 1 by omega, HF3.out] at h; rw [show L.length + (y :: V).length = L.length + V.length + 1 by simp only [List.length_cons]; omega]; exact h⟩
end Go.Proofs.Ytmnemandmpoioaa
