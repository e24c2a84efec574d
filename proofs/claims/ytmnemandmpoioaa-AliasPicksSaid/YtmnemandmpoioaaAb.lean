/- Package alias: rows of whole numbers in memory; append of one more. -/
import Derived.Laws.AppendOwn
import Derived.Laws.OwnMore
import Derived.ArgAppend
import Derived.Deep.RegionLaw
import Derived.Deep.LoopGhost
import Derived.Test.YtmnemandmpoioaaRows
import Derived.Test.YtmnemandmpoioaaLq
import Derived.Test.YtmnemandmpoioaaAa
namespace Go.Proofs.Ytmnemandmpoioaa
open Go.RowKit Fl

theorem hid {p : Prop} (h : p) : Hid p := h
theorem aside {p : Prop} (h : p) : Aside p := h
/-- Block g holds, from off on, these n numbers. -/
def Iro (w : World) (g off n : Nat) (f : Nat → Int) : Prop := ∃ cur, Lp.Bk w g cur 3 ∧ ∀ i, i < n → cur[off + i]? = some (.int .i64 (f i))
abbrev Ir (w : World) (g n : Nat) (f : Nat → Int) : Prop := Iro w g 0 n f
section
variable {w w' : World} {g off n : Nat} {f : Nat → Int}
theorem Iro.cell (h : Iro w g off n f) {i : Nat} (hi : i < n) : w.cell? ⟨g, off + i, none⟩ = some (.int .i64 (f i)) := by
  obtain ⟨cur, hB, hc⟩ := h
  exact (hB.cell (off + i)).trans (hc i hi)
theorem Iro.at (h : Iro w g 0 n f) {i : Nat} (hi : i < n) : w.cell? ⟨g, i, none⟩ = some (.int .i64 (f i)) := by
  have := Iro.cell h hi
  rwa [Nat.zero_add] at this
theorem Iro.frz (h : Iro w g off n f) (i : Nat) : w.frozen? ⟨g, i, none⟩ = false := by
  obtain ⟨cur, hB, hc⟩ := h
  exact hB.frz i
theorem Iro.lt (h : Iro w g off n f) : g < w.heap.size := by
  obtain ⟨cur, hB, hc⟩ := h
  exact hB.lt
theorem Iro.same (h : Iro w g off n f) (hs : w'.heap[g]? = w.heap[g]?) : Iro w' g off n f := by
  obtain ⟨cur, hB, hc⟩ := h
  exact ⟨cur, hs.trans hB, hc⟩
theorem Iro.keep (h : Iro w g off n f) (hb : Below w.heap.size w w') : Iro w' g off n f := h.same (hb.block g h.lt)
theorem Iro.seto (h : Iro w g off n f) {p : Addr} (hne : g ≠ p.block) (u : Value) : Iro (w.setCell p u) g off n f := h.same (Below.heap_setCell w p u g hne)
theorem Iro.alo (h : Iro w g off n f) (o : Obj) : Iro (w.alloc o) g off n f := h.keep ((Below.refl _ _).alloc (Nat.le_refl _) _)
theorem Iro.set (h : Iro w g 0 n f) {x : Nat} (hx : x < n) (v : Int) : Ir (w.setCell ⟨g, x, none⟩ (.int .i64 v)) g n (upd f x v) := by
  obtain ⟨cur, hB, hc⟩ := h
  refine ⟨_, hB.set x (.int .i64 v), fun i hi => ?_⟩
  have hcx := hc x hx
  rw [Nat.zero_add] at hcx ⊢
  have hsz := (Array.getElem?_eq_some_iff.1 hcx).1
  by_cases e : i = x
  · subst e; rw [upd_self, Array.getElem?_setIfInBounds_self_of_lt hsz]
  · rw [upd_ne e, Array.getElem?_setIfInBounds_ne (Ne.symm e)]
    have := hc i hi
    rwa [Nat.zero_add] at this
theorem Iro.congr (h : Iro w g off n f) {f' : Nat → Int} (hf : ∀ i, i < n → f i = f' i) : Iro w g off n f' := by
  obtain ⟨cur, hB, hc⟩ := h
  exact ⟨cur, hB, fun i hi => by rw [← hf i hi]; exact hc i hi⟩
end

/-- From off on block g reads so. -/
structure Rdo (w : World) (g off n : Nat) (f : Nat → Int) : Prop where
  lt : g < w.heap.size
  at' : ∀ i, i < n → w.cell? ⟨g, off + i, none⟩ = some (.int .i64 (f i))
theorem Iro.rd {w : World} {g off n : Nat} {f : Nat → Int} (h : Iro w g off n f) : Rdo w g off n f := ⟨h.lt, fun _ hi => h.cell hi⟩
theorem Rdo.cell {w : World} {g off n : Nat} {f : Nat → Int} (h : Rdo w g off n f) {i : Nat} (hi : i < n) : w.cell? ⟨g, off + i, none⟩ = some (.int .i64 (f i)) := h.at' i hi
theorem Rdo.keep {w w' : World} {g off n : Nat} {f : Nat → Int} (h : Rdo w g off n f) (hb : Below w.heap.size w w') : Rdo w' g off n f :=
  ⟨Nat.lt_of_lt_of_le h.lt hb.size, fun i hi => (hb.cell (p := ⟨g, off + i, none⟩) h.lt).trans (h.cell hi)⟩
theorem Rdo.alo {w : World} {g off n : Nat} {f : Nat → Int} (h : Rdo w g off n f) (o : Obj) : Rdo (w.alloc o) g off n f := h.keep ((Below.refl _ _).alloc (Nat.le_refl _) _)
theorem owns_base {w : World} {b b' : Nat} {e : TypeId} {size : Nat} {v : Value} {n : Nat} {xs : List Value} (h : w.ownsRow b e size v n xs) (hb : b' ≤ b) : w.ownsRow b' e size v n xs := by
  refine ⟨h.1, ?_⟩
  rcases h.2 with h2 | ⟨g, cap, cur, hv, hg, r⟩
  · exact .inl h2
  · exact .inr ⟨g, cap, cur, hv, Nat.le_trans hb hg, r⟩
theorem owns_slice {w : World} {base : Nat} {e : TypeId} {size : Nat} {v : Value} {n : Nat} {xs : List Value} (h : w.ownsRow base e size v n xs) : ∃ ao cap, v = .slice ao n cap ∧ (ao = none → n = 0) := by
  rcases h.2 with ⟨rfl, rfl⟩ | ⟨g, cap, cur, rfl, _⟩
  · exact ⟨none, 0, rfl, fun _ => rfl⟩
  · exact ⟨_, cap, rfl, fun h => by cases h⟩
theorem owns_same {w w' : World} {base : Nat} {e : TypeId} {size : Nat} {v : Value} {n : Nat} {xs : List Value} (h : w.ownsRow base e size v n xs) (hb : Below w.heap.size w w') : w'.ownsRow base e size v n xs :=
  h.kept (row := none) ⟨hb.os, hb.tape, hb.output, hb.size, fun k hk _ => hb.block k hk⟩ (by cases hv : v.ownBlock <;> simp)

/-- append to what the call owns: the row is the same block, or a new one. -/
theorem run_push {P : Program} (w : World) (t ty e : TypeId) (i : TypeInfo) (z : Value) (size bytes : Nat) (ht : P.underlying t = some (.slice e)) (hi : P.info? e = some i) (hz : i.zero = some z)
    (hsize : i.size = size) (hby : i.bytes = bytes) (hzs : z.cells.size = size) (hsz : 0 < size)
    (v : Value) (n : Nat) (xs : List Value) (hown : w.ownsRow 0 e size v n xs)
    (a : Addr) (m c : Nat) (news : List Value) (hl : news.length = m * size) (hnews : ∀ j u, news[j]? = some u → w.cell? (a.add j) = some u) (h1 : ∀ u ∈ news, u.oneCell' = true)
    (h63 : n + m ≤ maxLen) (hbytes : (n + m) * bytes ≤ 140737488355328) :
    ∃ v' w', (Builtin.append_ #[t, t] ty #[v, .slice (some a) m c]).run P w = .ok v' w' ∧ w'.ownsRow 0 e size v' (n + m) (xs ++ news) ∧ w.grownBy w' v.ownBlock ∧ (v'.ownBlock = v.ownBlock ∨ ∀ k, v'.ownBlock = some k → w.heap.size ≤ k) := by
  have hown0 := hown
  rcases hown.2 with ⟨rfl, rfl⟩ | ⟨g, cap, cur, rfl, hbg, hg, hnc, hcm, hcs, htake⟩
  · obtain rfl : xs = [] := List.eq_nil_of_length_eq_zero (by simpa using hown.1)
    obtain ⟨v', w', hrun, r1, r2, _⟩ := run_append_own (P := P) w w.heap.size t ty e i z size bytes ht hi hz hsize hby hzs hsz (.slice none 0 0) 0 [] (World.ownsRow_nil w _ e size) a m c news hl hnews h1 h63 hbytes (Nat.le_refl _)
    exact ⟨v', w', hrun, owns_base r1 (Nat.zero_le _), r2, .inr fun k hk => (r1.lt k hk).1⟩
  · by_cases hroom : n + m ≤ cap
    · obtain ⟨w', hrun, r1, r2⟩ := run_append_fits (P := P) w 0 t ty e i size ht hi hsize g n cap xs hown0 a m c news hl hnews h1 hroom
      exact ⟨_, w', hrun, r1, r2, .inl rfl⟩
    · obtain ⟨v', w', hrun, r1, r2⟩ := run_append_arg_grows (P := P) w t ty e i z size bytes ht hi hz hsize hby hzs hsz ⟨g, 0, none⟩ n cap xs hown.1 (hown0.cells (g := g) rfl) a m c news hl hnews (by omega) h63 hbytes
      exact ⟨v', w', hrun, owns_base r1 (Nat.zero_le _), ⟨r2.os, r2.tape, r2.output, r2.size, fun k hk _ => r2.block k hk (by simp)⟩, .inr fun k hk => (r1.lt k hk).1⟩

theorem wp_push {P : Program} {o : Oper} {a : Act} {K : Act → World → Prop} {Q : Exit → Act → World → Prop} (w : World) (s x : Operand) (t : TypeId)
    (ho : o.op = .call { callee := .builtin .append, args := #[s, x], argTypes := #[t, t] })
    (e : TypeId) (i : TypeInfo) (z : Value) (size bytes : Nat) (ht : P.underlying t = some (.slice e)) (hi : P.info? e = some i) (hz : i.zero = some z)
    (hsize : i.size = size) (hby : i.bytes = bytes) (hzs : z.cells.size = size) (hsz : 0 < size)
    (v : Value) (n : Nat) (xs : List Value) (hs : a.eval s = v) (hown : w.ownsRow 0 e size v n xs)
    (ad : Addr) (m c : Nat) (news : List Value) (hx : a.eval x = .slice (some ad) m c) (hl : news.length = m * size) (hnews : ∀ j u, news[j]? = some u → w.cell? (ad.add j) = some u) (h1 : ∀ u ∈ news, u.oneCell' = true)
    (h63 : n + m ≤ maxLen) (hbytes : (n + m) * bytes ≤ 140737488355328)
    (h : ∀ v' w', w'.ownsRow 0 e size v' (n + m) (xs ++ news) → w.grownBy w' v.ownBlock → (v'.ownBlock = v.ownBlock ∨ ∀ k, v'.ownBlock = some k → w.heap.size ≤ k) → K (a.put o.dst v') w') : o.wp P a w K Q := by
  obtain ⟨v', w', hr, h2, h3, h4⟩ := run_push (P := P) w t o.type e i z size bytes ht hi hz hsize hby hzs hsz v n xs hown ad m c news hl hnews h1 h63 hbytes
  unfold Oper.wp execOp
  simp only [ho, resolve, invoke, builtin, Sem.run_bind, Sem.run_pure, Result.andThen_ok, List.map_toArray, List.map_cons, List.map_nil, hs, hx, hr]
  exact h v' w' h2 h3 h4

theorem wpList_push {P : Program} {ops : Array Oper} {rest : List Oper} {o : Oper} {a : Act} {Q : Exit → Act → World → Prop} (w : World) (hgd : o.guard = none) (s x : Operand) (t : TypeId)
    (ho : o.op = .call { callee := .builtin .append, args := #[s, x], argTypes := #[t, t] })
    (e : TypeId) (i : TypeInfo) (z : Value) (size bytes : Nat) (ht : P.underlying t = some (.slice e)) (hi : P.info? e = some i) (hz : i.zero = some z)
    (hsize : i.size = size) (hby : i.bytes = bytes) (hzs : z.cells.size = size) (hsz : 0 < size)
    (v : Value) (n : Nat) (xs : List Value) (hs : a.eval s = v) (hown : w.ownsRow 0 e size v n xs)
    (ad : Addr) (m c : Nat) (news : List Value) (hx : a.eval x = .slice (some ad) m c) (hl : news.length = m * size) (hnews : ∀ j u, news[j]? = some u → w.cell? (ad.add j) = some u) (h1 : ∀ u ∈ news, u.oneCell' = true)
    (h63 : n + m ≤ maxLen) (hbytes : (n + m) * bytes ≤ 140737488355328)
    (h : ∀ v' w', w'.ownsRow 0 e size v' (n + m) (xs ++ news) → w.grownBy w' v.ownBlock → (v'.ownBlock = v.ownBlock ∨ ∀ k, v'.ownBlock = some k → w.heap.size ≤ k) → wpList P ops Q rest (a.put o.dst v') w') : wpList P ops Q (o :: rest) a w :=
  wpList_plain hgd fun _ hK => wp_push w s x t ho e i z size bytes ht hi hz hsize hby hzs hsz v n xs hs hown ad m c news hx hl hnews h1 h63 hbytes fun v' w' h2 h3 h4 => hK _ _ (h v' w' h2 h3 h4)

theorem step_push {P : Program} {ops : Array Oper} {o : Oper} {a : Act} {K : Act → World → Prop} {Q : Exit → Act → World → Prop} {E : Prop} (w : World) (hg : o.guard = none) (s x : Operand) (t : TypeId)
    (ho : o.op = .call { callee := .builtin .append, args := #[s, x], argTypes := #[t, t] })
    (e : TypeId) (i : TypeInfo) (z : Value) (size bytes : Nat) (ht : P.underlying t = some (.slice e)) (hi : P.info? e = some i) (hz : i.zero = some z)
    (hsize : i.size = size) (hby : i.bytes = bytes) (hzs : z.cells.size = size) (hsz : 0 < size)
    (v : Value) (n : Nat) (xs : List Value) (hs : a.eval s = v) (hown : w.ownsRow 0 e size v n xs)
    (ad : Addr) (m c : Nat) (news : List Value) (hx : a.eval x = .slice (some ad) m c) (hl : news.length = m * size) (hnews : ∀ j u, news[j]? = some u → w.cell? (ad.add j) = some u) (h1 : ∀ u ∈ news, u.oneCell' = true)
    (h63 : n + m ≤ maxLen) (hbytes : (n + m) * bytes ≤ 140737488355328)
    (h : ∀ v' w', w'.ownsRow 0 e size v' (n + m) (xs ++ news) → w.grownBy w' v.ownBlock → (v'.ownBlock = v.ownBlock ∨ ∀ k, v'.ownBlock = some k → w.heap.size ≤ k) → K (a.put o.dst v') w') :
    if Region.wanted o (yielded ops a.tmps) = true then Oper.wp P o a w K Q else E := by
  have hw : Region.wanted o (yielded ops a.tmps) = true := by simp [Region.wanted, hg]
  rw [if_pos hw]
  exact wp_push w s x t ho e i z size bytes ht hi hz hsize hby hzs hsz v n xs hs hown ad m c news hx hl hnews h1 h63 hbytes h

theorem info_int : ∃ i, Try.prog.info? 3 = some i ∧ i.zero = some (.int .i64 0) ∧ i.size = 1 ∧ i.bytes = 8 := by
  have h : (Try.prog.info? 3).map (fun i => (i.zero, i.size, i.bytes)) = some (some (.int .i64 0), 1, 8) := by kernel_rfl
  obtain ⟨i, hi, hz⟩ := Option.map_eq_some_iff.1 h
  simp only [Prod.mk.injEq] at hz
  exact ⟨i, hi, hz.1, hz.2.1, hz.2.2⟩
theorem under_ints : Try.prog.underlying 22 = some (.slice 3) := by kernel_rfl
theorem news_one {w : World} {b : Nat} {x : Value} (h : w.cell? ⟨b, 0, none⟩ = some x) : ∀ j u, [x][j]? = some u → w.cell? ((⟨b, 0, none⟩ : Addr).add j) = some u := by
  intro j u hj
  match j, hj with
  | 0, hj => simp at hj; subst hj; simpa [Addr.add] using h
theorem one_int (x : Int) : ∀ u ∈ [Value.int .i64 x], u.oneCell' = true := by
  intro u hu
  simp at hu
  subst hu
  rfl
theorem max_small {n : Nat} (h : n ≤ 1000000) : n ≤ maxLen := by unfold maxLen; omega

/-- What is owned is a row. -/
theorem owns_ir {w : World} {ao : Option Addr} {n cap : Nat} {f : Nat → Int} (h : w.ownsRow 0 3 1 (.slice ao n cap) n ((List.range n).map fun i => .int .i64 (f i))) (h0 : 0 < n) : ∃ g, ao = some ⟨g, 0, none⟩ ∧ Ir w g n f := by
  rcases h.2 with ⟨h2, rfl⟩ | ⟨g, c, cur, hv, hg, hh, h1, h2, h3, h4⟩
  · omega
  · simp only [Value.slice.injEq] at hv
    obtain ⟨rfl, -, rfl⟩ := hv
    refine ⟨g, rfl, cur, hh, fun i hi => ?_⟩
    have : (cur.toList.take (n * 1))[i]? = some (.int .i64 (f i)) := by
      rw [h4, List.getElem?_map, List.getElem?_range hi]
      rfl
    rw [List.getElem?_take, if_pos (by omega)] at this
    rw [Nat.zero_add]
    simpa using this
theorem owns_more {w : World} {v : Value} {n : Nat} {f : Nat → Int} {x : Int} (h : w.ownsRow 0 3 1 v (n + 1) ((List.range n).map (fun i => Value.int .i64 (f i)) ++ [.int .i64 x])) (hf : f n = x) : w.ownsRow 0 3 1 v (n + 1) ((List.range (n + 1)).map fun i => .int .i64 (f i)) := by
  rw [List.range_succ, List.map_append]
  subst hf
  exact h
end Go.Proofs.Ytmnemandmpoioaa
