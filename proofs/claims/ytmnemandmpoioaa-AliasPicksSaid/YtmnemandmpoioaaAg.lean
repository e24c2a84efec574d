/- Package alias: parted. -/
import Derived.Deep.LoopGhost
import Derived.Test.YtmnemandmpoioaaAf
namespace Go.Proofs.Ytmnemandmpoioaa
open Go.RowKit Fl

/-- The room of both lists: light ones from 0 on, heavy ones from n on. -/
def Room (w : World) (R n : Nat) (L V : List Nat) : Prop :=
  ∃ cur : Array Value, Lp.Bk w R cur 3 ∧ cur.size = 2 * n ∧ (∀ i x : Nat, L.reverse[i]? = some x → cur[i]? = some (Value.int .i64 (x : Int))) ∧ (∀ i x : Nat, V.reverse[i]? = some x → cur[n + i]? = some (Value.int .i64 (x : Int)))
section
variable {w w' : World} {R n : Nat} {L V : List Nat}
theorem Room.lt (h : Room w R n L V) : R < w.heap.size := by
  obtain ⟨cur, hB, _⟩ := h
  exact hB.lt
theorem Room.frz (h : Room w R n L V) : ∀ i, w.frozen? ⟨R, i, none⟩ = false := by
  obtain ⟨cur, hB, _⟩ := h
  exact hB.frz
theorem Room.same (h : Room w R n L V) (hs : w'.heap[R]? = w.heap[R]?) : Room w' R n L V := by
  obtain ⟨cur, hB, r⟩ := h
  exact ⟨cur, hs.trans hB, r⟩
theorem Room.keep (h : Room w R n L V) (hb : Below w.heap.size w w') : Room w' R n L V := h.same (hb.block R h.lt)
theorem Room.alo (h : Room w R n L V) (o : Obj) : Room (w.alloc o) R n L V := h.keep ((Below.refl _ _).alloc (Nat.le_refl _) _)
theorem Room.seto (h : Room w R n L V) {p : Addr} (hne : R ≠ p.block) (u : Value) : Room (w.setCell p u) R n L V := h.same (Below.heap_setCell w p u R hne)
theorem Room.cell (h : Room w R n L V) {i : Nat} (hi : i < 2 * n) : ∃ u, w.cell? ⟨R, i, none⟩ = some u := by
  obtain ⟨cur, hB, hs, _⟩ := h
  exact ⟨cur[i]'(by omega), by rw [hB.cell]; simp [hs, hi]⟩
theorem Room.atL (h : Room w R n L V) {i x : Nat} (hx : L.reverse[i]? = some x) : w.cell? ⟨R, i, none⟩ = some (.int .i64 x) := by
  obtain ⟨cur, hB, hs, hL, hV⟩ := h
  rw [hB.cell]; exact hL i x hx
theorem Room.atV (h : Room w R n L V) {i x : Nat} (hx : V.reverse[i]? = some x) : w.cell? ⟨R, n + i, none⟩ = some (.int .i64 x) := by
  obtain ⟨cur, hB, hs, hL, hV⟩ := h
  rw [hB.cell]; exact hV i x hx
theorem rev_top (x : Nat) (L : List Nat) : (x :: L).reverse[L.length]? = some x := by
  rw [List.reverse_cons, List.getElem?_append_right (by simp)]
  simp
theorem rev_more {x : Nat} {L : List Nat} {i y : Nat} (h : L.reverse[i]? = some y) : (x :: L).reverse[i]? = some y := by
  have hi := (List.getElem?_eq_some_iff.1 h).1
  rw [List.reverse_cons, List.getElem?_append_left hi]
  exact h
theorem rev_less {x : Nat} {L : List Nat} {i y : Nat} (h : (x :: L).reverse[i]? = some y) : (i = L.length ∧ y = x) ∨ (i < L.length ∧ L.reverse[i]? = some y) := by
  have hi := (List.getElem?_eq_some_iff.1 h).1
  simp at hi
  by_cases e : i = L.length
  · subst e
    rw [rev_top] at h
    exact .inl ⟨rfl, by simpa using h.symm⟩
  · refine .inr ⟨by omega, ?_⟩
    rw [List.reverse_cons, List.getElem?_append_left (by simp; omega)] at h
    exact h
theorem Room.popL {x : Nat} (h : Room w R n (x :: L) V) : Room w R n L V := by
  obtain ⟨cur, hB, hs, hL, hV⟩ := h
  exact ⟨cur, hB, hs, fun i y hy => hL i y (rev_more hy), hV⟩
theorem Room.topL {x : Nat} (h : Room w R n (x :: L) V) : w.cell? ⟨R, L.length, none⟩ = some (.int .i64 x) := h.atL (rev_top x L)
theorem Room.pushL (h : Room w R n L V) (hl : L.length < n) (x : Nat) : Room (w.setCell ⟨R, L.length, none⟩ (.int .i64 x)) R n (x :: L) V := by
  obtain ⟨cur, hB, hs, hL, hV⟩ := h
  refine ⟨_, hB.set L.length (.int .i64 x), by rw [Array.size_setIfInBounds]; exact hs, fun i y hy => ?_, fun i y hy => ?_⟩
  · rcases rev_less hy with ⟨rfl, rfl⟩ | ⟨hi, hy⟩
    · rw [Array.getElem?_setIfInBounds_self_of_lt (by omega)]
    · rw [Array.getElem?_setIfInBounds_ne (by omega)]; exact hL i y hy
  · rw [Array.getElem?_setIfInBounds_ne (by omega)]; exact hV i y hy
theorem Room.pushV (h : Room w R n L V) (hl : L.length ≤ n) (hv : V.length < n) (x : Nat) : Room (w.setCell ⟨R, n + V.length, none⟩ (.int .i64 x)) R n L (x :: V) := by
  obtain ⟨cur, hB, hs, hL, hV⟩ := h
  refine ⟨_, hB.set (n + V.length) (.int .i64 x), by rw [Array.size_setIfInBounds]; exact hs, fun i y hy => ?_, fun i y hy => ?_⟩
  · have hi := (List.getElem?_eq_some_iff.1 hy).1
    simp at hi
    rw [Array.getElem?_setIfInBounds_ne (by omega)]; exact hL i y hy
  · rcases rev_less hy with ⟨rfl, rfl⟩ | ⟨hi, hy⟩
    · rw [Array.getElem?_setIfInBounds_self_of_lt (by omega)]
    · rw [Array.getElem?_setIfInBounds_ne (by omega)]; exact hV i y hy
end

theorem wpList_room {P : Program} {ops : Array Oper} {rest : List Oper} {o : Oper} {a : Act} {Q : Exit → Act → World → Prop} (w : World) (hgd : o.guard = none) (s x : Operand) (t : TypeId)
    (ho : o.op = .call { callee := .builtin .append, args := #[s, x], argTypes := #[t, t] })
    (e : TypeId) (i : TypeInfo) (ht : P.underlying t = some (.slice e)) (hi : P.info? e = some i) (hsize : i.size = 1)
    (b off n cap : Nat) (hs : a.eval s = .slice (some ⟨b, off, none⟩) n cap) (ad : Addr) (c : Nat) (u : Value) (hx : a.eval x = .slice (some ad) 1 c) (hnews : ∀ j y, [u][j]? = some y → w.cell? (ad.add j) = some y) (h1 : ∀ y ∈ [u], y.oneCell' = true)
    (hroom : n + 1 ≤ cap) (hc : ∃ y, w.cell? ⟨b, off + n, none⟩ = some y) (hf : w.frozen? ⟨b, off + n, none⟩ = false)
    (h : wpList P ops Q rest (a.put o.dst (.slice (some ⟨b, off, none⟩) (n + 1) cap)) (w.setCell ⟨b, off + n, none⟩ u)) : wpList P ops Q (o :: rest) a w := by
  refine wpList_plain hgd fun K hK => ?_
  obtain ⟨y, hy⟩ := hc
  have hr := run_append_room_cells (P := P) w t o.type e i ht hi b off n cap ad 1 c [u] (by rw [hsize]; rfl) hnews h1 hroom (fun j hj => by
    have : j = 0 := by simp at hj; omega
    subst this
    rw [hsize, Nat.mul_one, Nat.add_zero, hy]; rfl) (fun j hj => by
    have : j = 0 := by simp at hj; omega
    subst this
    rw [hsize, Nat.mul_one, Nat.add_zero]; exact hf)
  rw [hsize, Nat.mul_one] at hr
  unfold Oper.wp execOp
  simp only [ho, resolve, invoke, builtin, Sem.run_bind, Sem.run_pure, Result.andThen_ok, List.map_toArray, List.map_cons, List.map_nil, hs, hx, hr]
  exact hK _ _ h

set_option maxRecDepth 100000 in
set_option maxHeartbeats 2000000 in
theorem parted_any (T n gw cw D gh : Nat) (tot : Int) (st sa : Value) (H : Nat → Int) (w : World) (hT : Lp.Bk w T #[.slice (some ⟨gw, 0, none⟩) n cw, st, sa, .int .i64 tot] 51) (hD : Lp.Bk w D #[.slice (some ⟨gh, 0, none⟩) n n] 22) (hI : Ir w gh n H) (h0 : 0 < n) (hn : n ≤ 1024) (hH : ∀ i, i < n → 0 ≤ H i ∧ H i ≤ 1073741824) (hne : D ≠ gh) :
    Calls Try.prog 31 #[.pointer (some ⟨T, 0, none⟩), .func (.func 32) #[] #[.pointer (some ⟨D, 0, none⟩)]] w fun e w' => ∃ R, e = .returned (.tuple #[.slice (some ⟨R, 0, none⟩) (lights tot H n).length n, .slice (some ⟨R, n, none⟩) (heavies tot H n).length n]) ∧
      w.heap.size ≤ R ∧ Room w' R n (lights tot H n) (heavies tot H n) ∧ Below w.heap.size w w' := by
  obtain ⟨i0, hi, hz0, hz1, hz2⟩ := info_int
  have HL := hid (alen_any (tot := tot) (n := n) w rfl hT)
  have HM : ∀ w, _ := fun w => made_ints (2 * n) w (by omega)
  rw [show ((2 * n : Nat) : Int) = 2 * (n : Int) by omega] at HM
  have HT := hid hT
  have HD := hid hD
  have HI := hid hI
  have HH := hid hH
  have HNE := hid hne
  clear hT hD hI hH hne
  go_enter Try.func31, Try.ntmps31
  go_wp2_with fail
  refine Calls.mono HL.out ?_
  rintro e w' ⟨rfl, hw⟩
  obtain rfl := hw.symm
  clear hw HL
  go_wp2_with fail
  have q1 : ((n : Int) ≤ 2 * (n : Int)) = True := eq_true (by omega)
  have q2 : ((0 : Int) ≤ (n : Int)) = True := eq_true (by omega)
  have q3 : IntKind.i64.wrap (2 * (n : Int)) = 2 * (n : Int) := by rw [IntKind.wrap_i64]; omega
  go_quiet (fail)
  go_wp2_with fail
  have HRm : Room ((w.alloc (.cells (madeCells #[.int .i64 0] (2 * n)) 3)).drewN nq) w.heap.size n [] [] :=
    ⟨_, (Lp.Bk.al w (madeCells #[.int .i64 0] (2 * n)) 3).dr nq, size_madeCells _ _, fun i x hx => by simp at hx, fun i x hx => by simp at hx⟩
  have HB : Below w.heap.size w ((w.alloc (.cells (madeCells #[.int .i64 0] (2 * n)) 3)).drewN nq) := below_dr ((Below.refl _ _).alloc (Nat.le_refl _) _) _
  go_loopg [4, 5, 24] n (fun k l h i wr => ∃ j : Nat, k + j = n ∧ i = .int .i64 (j : Int) ∧ l = .slice (some ⟨w.heap.size, 0, none⟩) (lights tot H j).length n ∧ h = .slice (some ⟨w.heap.size, n, none⟩) (heavies tot H j).length n ∧ Room wr w.heap.size n (lights tot H j) (heavies tot H j) ∧ Below w.heap.size w wr)
  case atStart => exact ⟨0, by omega, rfl, rfl, by rw [show 2 * n - n = n by omega]; rfl, HRm, HB⟩
  case round =>
    clear HRm HB q1 q2 q3 HM
    obtain ⟨g0, hg0⟩ : ∃ g0, g0 = gk := ⟨_, rfl⟩
    subst hg0
    obtain ⟨j, hk, rfl, rfl, rfl, hR, hB⟩ := hrel
    have HK := aside hk
    have HR := hid hR
    have HB := hid hB
    have hlen := both_len tot H j
    clear hk hR hB
    by_cases hj : j < n
    · have hd : ((j : Int) < (n : Int)) = True := eq_true (by omega)
      have hDr := HD.out.keep HB.out
      have hIr := HI.out.keep HB.out
      have kT := (HT.out.keep HB.out).cell
      have HTr := hid (HT.out.keep HB.out)
      have HLf := hid (fun w1 (hw : Cl wr w1) => left_zero j D gh n n H w1 (hDr.cl hw) (hIr.keep hw) hj (by have := HH.out j hj; omega) HNE.out)
      clear hDr hIr
      have hx := HH.out j hj
      by_cases hl : H j < tot
      · have e1 : lights tot H (j + 1) = j :: lights tot H j := by rw [lights, if_pos hl]
        have e2 : heavies tot H (j + 1) = heavies tot H j := by rw [heavies, if_pos hl]
        have HE := aside (And.intro e1 e2)
        clear e1 e2
        generalize lights tot H j = L at *
        generalize heavies tot H j = V at *
        generalize H j = x at *
        have hd2 : (x < tot) = True := eq_true hl
        obtain ⟨x0, x1⟩ := hx
        go_wp2_with fail
        apply Lp.wp_region_loose _ _ 8 (by kernel_rfl) (by kernel_rfl) (by kernel_rfl) (Below.refl _ _)
        apply Lp.facts
        · intro w1 hw
          exact (HTr.out.cl hw).cell
        intro HF
        iterate 2 (
          apply Lp.one ?_ rfl
          · intro w hw
            have k0 := HF.out _ hw
            go_simp
            exact rfl
          intro K hK
          go_simp
          refine hK.out _ ?_
          clear hK K)
        apply Lp.any rfl
        · intro w hw
          go_simp
          exact Lp.ret (ret_one (HLf.out _ hw))
        intro K hK
        rintro v rfl
        go_simp
        refine hK.out _ ?_
        clear hK K
        iterate 5 (
          apply Lp.one ?_ rfl
          · intro w hw
            have k0 := HF.out _ hw
            go_simp
            exact rfl
          intro K hK
          go_simp
          refine hK.out _ ?_
          clear hK K)
        rotate_left
        exact []
        intro v1 hm
        have HR1 := hid (HR.out.keep hm)
        have HB1 := hid (HB.out.trans (hm.mono HB.out.size))
        clear hm kT
        go_wp2_with (first
          | (at_builtin; refine wpList_room _ rfl _ _ 22 rfl 3 i0 under_ints hi hz1 w.heap.size 0 L.length n rfl ⟨v1.heap.size, 0, none⟩ 1 (.int .i64 j) rfl (news_one ((Lp.Bk.al v1 #[.int .i64 j] 3).cell 0)) (one_int j) (by omega) ((HR1.out.alo _).cell (by omega)) ((HR1.out.alo _).frz _) ?_)
          | fail)
        have HR2 := hid ((HR1.out.alo (.cells #[.int .i64 (j : Int)] 3)).pushL (by omega) j)
        have HB2 := hid ((HB1.out.alloc HB1.out.size (.cells #[.int .i64 (j : Int)] 3)).setCell (p := ⟨w.heap.size, L.length, none⟩) (Nat.le_refl _) (.int .i64 (j : Int)))
        go_wp2_with fail
        go_roundg (g0 - 1)
        case measure => have := HK.out; omega
        case rel => exact ⟨j + 1, by have := HK.out; omega, by go_num, by rw [HE.out.1]; rfl, by rw [HE.out.2], by rw [HE.out.1, HE.out.2]; simpa using HR2.out, by simpa using HB2.out⟩
      · have e1 : lights tot H (j + 1) = lights tot H j := by rw [lights, if_neg hl]
        have e2 : heavies tot H (j + 1) = j :: heavies tot H j := by rw [heavies, if_neg hl]
        have HE := aside (And.intro e1 e2)
        clear e1 e2
        generalize lights tot H j = L at *
        generalize heavies tot H j = V at *
        generalize H j = x at *
        have hd2 : (x < tot) = False := eq_false hl
        obtain ⟨x0, x1⟩ := hx
        go_wp2_with fail
        apply Lp.wp_region_loose _ _ 8 (by kernel_rfl) (by kernel_rfl) (by kernel_rfl) (Below.refl _ _)
        apply Lp.facts
        · intro w1 hw
          exact (HTr.out.cl hw).cell
        intro HF
        iterate 2 (
          apply Lp.one ?_ rfl
          · intro w hw
            have k0 := HF.out _ hw
            go_simp
            exact rfl
          intro K hK
          go_simp
          refine hK.out _ ?_
          clear hK K)
        apply Lp.any rfl
        · intro w hw
          go_simp
          exact Lp.ret (ret_one (HLf.out _ hw))
        intro K hK
        rintro v rfl
        go_simp
        refine hK.out _ ?_
        clear hK K
        iterate 5 (
          apply Lp.one ?_ rfl
          · intro w hw
            have k0 := HF.out _ hw
            go_simp
            exact rfl
          intro K hK
          go_simp
          refine hK.out _ ?_
          clear hK K)
        rotate_left
        exact []
        intro v1 hm
        have HR1 := hid (HR.out.keep hm)
        have HB1 := hid (HB.out.trans (hm.mono HB.out.size))
        clear hm kT
        go_wp2_with (first
          | (at_builtin; refine wpList_room _ rfl _ _ 22 rfl 3 i0 under_ints hi hz1 w.heap.size n V.length n rfl ⟨v1.heap.size, 0, none⟩ 1 (.int .i64 j) rfl (news_one ((Lp.Bk.al v1 #[.int .i64 j] 3).cell 0)) (one_int j) (by omega) ((HR1.out.alo _).cell (by omega)) ((HR1.out.alo _).frz _) ?_)
          | fail)
        have HR2 := hid ((HR1.out.alo (.cells #[.int .i64 (j : Int)] 3)).pushV (by omega) (by omega) j)
        have HB2 := hid ((HB1.out.alloc HB1.out.size (.cells #[.int .i64 (j : Int)] 3)).setCell (p := ⟨w.heap.size, n + V.length, none⟩) (Nat.le_refl _) (.int .i64 (j : Int)))
        go_wp2_with fail
        go_roundg (g0 - 1)
        case measure => have := HK.out; omega
        case rel => exact ⟨j + 1, by have := HK.out; omega, by go_num, by rw [HE.out.1], by rw [HE.out.2]; rfl, by rw [HE.out.1, HE.out.2]; simpa using HR2.out, by simpa using HB2.out⟩
    · have hd : ((j : Int) < (n : Int)) = False := eq_false (by omega)
      have hjn : j = n := by have := HK.out; omega
      subst hjn
      go_wp2_with fail
      go_ret2
      exact ⟨w.heap.size, rfl, Nat.le_refl _, HR.out, HB.out⟩
end Go.Proofs.Ytmnemandmpoioaa
