/- Package bvh: byMedian: a list is copied, ordered by the library's own sort, and halved. Package bvh: bySurface; how a list is parted (parter). Package bvh: how a list is parted (parter). Package bvh: what is kept where some blocks change; the tree as it is built; numbers. -/
import Derived.Test.YtijoaklknpkdoaaG10
import Derived.Test.YtijoaklknpkdoaaG11
import Derived.Test.YtijoaklknpkdoaaG9
import Derived.Test.YtijoaklknpkdoaaG7
import Derived.Test.YtijoaklknpkdoaaG8
namespace Go.Proofs.Ytijoaklknpkdoaa
open Go.RowKit Fl Lm

theorem cf_lt {T : Nat → Tr} (hT : ∀ i, (T i).Mo) (k i j : Nat) : decide (cfT T k i j < 0) = ltK (keyT T k) i j := by
  obtain ⟨a, b, e, _, _⟩ := ord_val (key_mo hT k i).num (key_mo hT k j).num
  unfold cfT cmpF ltK ltB eqB orI cmpI
  rw [e]
  generalize compare a b = o
  cases o
  · simp
  · by_cases h : i < j
    · simp [h]
    · by_cases h2 : j < i
      · simp [h, h2]
      · simp [h, h2]
  · simp
theorem cf_swo {T : Nat → Tr} (hT : ∀ i, (T i).Mo) (k m : Nat) : Sort.SWO (Go.Proofs.ltOf fun (x y : Fin (m + 1)) => cfT T k x y) where
  irrefl x := by
    show decide (cfT T k x x < 0) = false
    rw [cf_lt hT, ltK_no fun i => (key_mo hT k i).num]
    exact .inr ⟨rfl, Nat.le_refl _⟩
  trans x y z h1 h2 := by
    have h1' : ltK (keyT T k) x y = true := (cf_lt hT k x y).symm.trans h1
    have h2' : ltK (keyT T k) y z = true := (cf_lt hT k y z).symm.trans h2
    show decide (cfT T k x z < 0) = true
    rw [ltK_iff fun i => (key_mo hT k i).num] at h1' h2'
    rw [cf_lt hT, ltK_iff fun i => (key_mo hT k i).num]
    rcases h1' with a | ⟨a, b⟩ <;> rcases h2' with c | ⟨c, d⟩
    · exact .inl (by grind)
    · exact .inl (by grind)
    · exact .inl (by grind)
    · exact .inr ⟨by grind, Nat.lt_trans b d⟩
  ntrans x y z h1 h2 := by
    have h1' : ltK (keyT T k) x y = false := (cf_lt hT k x y).symm.trans h1
    have h2' : ltK (keyT T k) y z = false := (cf_lt hT k y z).symm.trans h2
    show decide (cfT T k x z < 0) = false
    rw [ltK_no fun i => (key_mo hT k i).num] at h1' h2'
    rw [cf_lt hT, ltK_no fun i => (key_mo hT k i).num]
    rcases h1' with a | ⟨a, b⟩ <;> rcases h2' with c | ⟨c, d⟩
    · exact .inl (by grind)
    · exact .inl (by grind)
    · exact .inl (by grind)
    · exact .inr ⟨by grind, Nat.le_trans d b⟩

section
variable {α : Type} [Inhabited α] (enc : α → Value) (w : World) (blk off m : Nat) (dk : Array α) (os : Array Obj)
theorem sortW_heap {k : Nat} (hk : k < w.heap.size) (hn : k ≠ blk) : (sortWorld enc w blk off m dk os).heap[k]? = w.heap[k]? := by
  unfold sortWorld
  rw [Sort.heap_grow_old _ _ (by rw [size_putRow]; exact hk)]
  show (w.heap.modify blk _)[k]? = _
  rw [Array.getElem?_modify, if_neg (Ne.symm hn)]
theorem sortW_size : w.heap.size ≤ (sortWorld enc w blk off m dk os).heap.size := by
  unfold sortWorld
  rw [Sort.size_grow, size_putRow]
  show w.heap.size ≤ w.heap.size + _
  omega
theorem sortW_cl {W : World} (h : Cl W w) (hb : W.heap.size ≤ blk) : Cl W (sortWorld enc w blk off m dk os) :=
  ⟨h.os, h.tape, h.output, Nat.le_trans h.size (sortW_size enc w blk off m dk os), fun k hk => (sortW_heap enc w blk off m dk os (Nat.lt_of_lt_of_le hk h.size) (by omega)).trans (h.block k hk)⟩
theorem sortW_bk {b : Nat} {vs : Array Value} {t : TypeId} (h : Lp.Bk w b vs t) (hn : b ≠ blk) : Lp.Bk (sortWorld enc w blk off m dk os) b vs t := (sortW_heap enc w blk off m dk os h.lt hn).trans h
end
/-- The numbers as places. -/
def finL (m : Nat) (l : List Nat) : Array (Fin (m + 1)) := (l.map fun i => Fin.ofNat (m + 1) i).toArray
theorem finL_size (m : Nat) (l : List Nat) : (finL m l).size = l.length := by simp [finL]
theorem finL_at {m : Nat} {l : List Nat} (hl : ∀ i, i ∈ l → i < m + 1) {j : Nat} (hj : j < l.length) : ((finL m l)[j]!).val = l.getD j 0 := by
  have h1 : j < (finL m l).size := by rw [finL_size]; exact hj
  rw [getElem!_pos _ j h1]
  have e : l.getD j 0 = l[j] := by rw [List.getD_eq_getElem?_getD, List.getElem?_eq_getElem hj]; rfl
  rw [e]
  show ((l.map fun i => Fin.ofNat (m + 1) i).toArray[j]'(by simpa using hj)).val = _
  simp only [List.getElem_toArray, List.getElem_map]
  exact Nat.mod_eq_of_lt (hl _ (List.getElem_mem hj))
theorem finL_back {m : Nat} {l : List Nat} (hl : ∀ i, i ∈ l → i < m + 1) : (finL m l).toList.map (fun x => x.val) = l := by
  unfold finL
  rw [List.map_map]
  conv => rhs; rw [← List.map_id l]
  exact List.map_congr_left fun i hi => Nat.mod_eq_of_lt (hl i hi)
theorem sorted_med {T : Nat → Tr} (hT : ∀ i, (T i).Mo) {k m : Nat} {l : List Nat} (hl : ∀ i, i ∈ l → i < m + 1) {d' : Array (Fin (m + 1))} (hp : Sort.PermIn 0 (finL m l).size (finL m l) d')
    (hs : Sort.SortedIn (Go.Proofs.ltOf fun (x y : Fin (m + 1)) => cfT T k x y) 0 (finL m l).size d') : d'.toList.map (fun x => x.val) = medF (keyT T k) l := by
  obtain ⟨h1, _, h3⟩ := hp
  refine med_uniq (fun i => (key_mo hT k i).num) ?_ ?_
  · have : d'.toList.Perm (finL m l).toList := by
      have e1 : d'.extract 0 (finL m l).size = d' := by rw [← h1]; exact Array.extract_size
      have e2 : (finL m l).extract 0 (finL m l).size = finL m l := Array.extract_size
      rwa [e1, e2] at h3
    have := this.map (fun x => x.val)
    rwa [finL_back hl] at this
  · rw [List.pairwise_iff_getElem]
    intro i j hi hj hij
    simp only [List.length_map, Array.length_toList] at hi hj
    have := hs i j (Nat.zero_le _) hij (by rw [← h1]; exact hj)
    rw [getElem!_pos _ i hi, getElem!_pos _ j hj] at this
    simp only [List.getElem_map, Array.getElem_toList]
    rw [← cf_lt hT]
    exact this

/-- Two lists are handed back, in blocks of the call's own. -/
def TwoL (w w' : World) (v : Value) (x y : List Nat) : Prop := ∃ a c b d, v = .tuple #[.slice a x.length c, .slice b y.length d] ∧ Sl w' a x.length 1 (lvs x) ∧ Sl w' b y.length 1 (lvs y) ∧ (∀ g o, a = some ⟨g, o, none⟩ → w.heap.size ≤ g) ∧ (∀ g o, b = some ⟨g, o, none⟩ → w.heap.size ≤ g) ∧ Cl w w'
theorem lvs_take {l : List Nat} {m i : Nat} (h : i < m) : lvs (l.take m) i = lvs l i := by
  unfold lvs
  rw [List.getD_eq_getElem?_getD, List.getD_eq_getElem?_getD, List.getElem?_take, if_pos h]
theorem lvs_drop (l : List Nat) (m i : Nat) : lvs (l.drop m) i = lvs l (m + i) := by
  unfold lvs
  rw [List.getD_eq_getElem?_getD, List.getD_eq_getElem?_getD, List.getElem?_drop]

theorem iclone_any {ao : Option Addr} {c : Nat} {l : List Nat} {w : World} (hL : Sl w ao l.length 1 (lvs l)) (h0 : 0 < l.length) (h5 : l.length ≤ 1000) :
    Calls Try.prog 14 #[.slice ao l.length c] w fun e w' => ∃ g c', e = .returned (.slice (some ⟨g, 0, none⟩) l.length c') ∧ l.length ≤ c' ∧ w.heap.size ≤ g ∧ g < w'.heap.size ∧ (∀ j, j < l.length → w'.cell? ⟨g, j, none⟩ = some (.int .i64 ((l.getD j 0 : Nat) : Int)) ∧ w'.frozen? ⟨g, j, none⟩ = false) ∧ Cl w w' := by
  obtain ⟨g, o, rfl, E⟩ := hL.get h0
  have hz : ∀ j, ((l.map fun i : Nat => (i : Int)).getD j 0) = ((l.getD j 0 : Nat) : Int) := fun j => by
    simp only [List.getD_eq_getElem?_getD, List.getElem?_map]
    cases l[j]? <;> rfl
  refine Calls.mono (Try.slices_Clone_int g o l.length c (l.map fun i : Nat => (i : Int)) w (by simp) (by omega) fun j hj => ?_) ?_
  · rw [hz j]
    exact E.num (by simpa using hj)
  · rintro e w' ⟨v, rfl, hown, hne, hb⟩
    have hown0 := hown
    rcases hown.2 with ⟨h2, _⟩ | ⟨g', cap, cur, rfl, hg, hh, h1, h2, h3, h4⟩
    · exact absurd h2 hne
    · refine ⟨g', cap, rfl, h1, hg, (Array.getElem?_eq_some_iff.1 hh).1, fun j hj => ⟨?_, ?_⟩, hb⟩
      · rw [hown0.cellAt j (by omega)]
        rw [List.take_of_length_le (by simp), List.getElem?_map, List.getElem?_map, List.getD_eq_getElem?_getD, List.getElem?_eq_getElem hj]
        rfl
      · exact hown0.frozenAt j

set_option maxRecDepth 100000 in
set_option maxHeartbeats 1000000 in
theorem along_any (ab am : Option Addr) (n cb cm k : Nat) (w : World) : Calls Try.prog 45 #[.agg #[.slice ab n cb, .slice am n cm], .int .i64 (k : Int)] w fun e w' => e = .returned (.func (.func 61) #[] #[.pointer (some ⟨w.heap.size, 0, none⟩), .pointer (some ⟨w.heap.size + 1, 0, none⟩)]) ∧ w' = (w.alloc (.cells #[.slice ab n cb, .slice am n cm] 58)).alloc (.cells #[.int .i64 (k : Int)] 3) := by
  go_enter Try.func45, Try.ntmps45
  go_wp2_with fail
  go_ret
  exact ⟨rfl, rfl⟩

theorem enters_along : ∀ args w, (callFunc 61 args).run Try.prog w = .ok (.enter 61 args) w := enters_of Try.func61 (by kernel_rfl) rfl

theorem sort_any (T : Nat → Tr) (hT : ∀ i, (T i).Mo) (m cb cm k gl c1 gs ga : Nat) (ab am : Option Addr) (l : List Nat) (w w2 : World) (hS : Shp T w (m + 1) ab am) (hl : ∀ i, i ∈ l → i < m + 1) (h5 : l.length ≤ 512) (hg : w.heap.size ≤ gl) (hgl : gl < w2.heap.size)
    (hc : ∀ j, j < l.length → w2.cell? ⟨gl, j, none⟩ = some (.int .i64 ((l.getD j 0 : Nat) : Int)) ∧ w2.frozen? ⟨gl, j, none⟩ = false) (hcl : Cl w w2) (hs : Lp.Bk w2 gs #[.slice ab (m + 1) cb, .slice am (m + 1) cm] 58) (ha : Lp.Bk w2 ga #[.int .i64 (k : Int)] 3) (ns : gs ≠ gl) (na : ga ≠ gl) :
    Calls Try.prog 44 #[.slice (some ⟨gl, 0, none⟩) l.length c1, .func (.func 61) #[] #[.pointer (some ⟨gs, 0, none⟩), .pointer (some ⟨ga, 0, none⟩)]] w2 fun e w' =>
      e = .returned (.tuple #[]) ∧ Els w' gl 0 l.length 1 (lvs (medF (keyT T k) l)) ∧ Cl w w' := by
  have hH : Sort.Holds (fun x : Fin (m + 1) => Value.int .i64 (x.val : Int)) w2 gl 0 (finL m l) := fun j hj => by
    rw [finL_size] at hj
    have := hc j hj
    rw [Nat.zero_add]
    refine ⟨?_, this.2⟩
    rw [this.1]
    exact congrArg (fun z : Nat => some (Value.int .i64 (z : Int))) (finL_at hl hj).symm
  have hsz : (finL m l).size = l.length := finL_size m l
  have hcmp : CmpLays1 Try.prog 61 #[.pointer (some ⟨gs, 0, none⟩), .pointer (some ⟨ga, 0, none⟩)] (fun x : Fin (m + 1) => Value.int .i64 (x.val : Int)) (fun x y => cfT T k x y) gl 0 (finL m l).size w2 := by
    intro q os dk hk x y
    refine Calls.mono (along1_any T hT (m + 1) cb cm gs ga k x y ab am _ (sortW_bk _ _ _ _ _ _ _ hs ns) (sortW_bk _ _ _ _ _ _ _ ha na) (hS.keep (sortW_cl _ _ _ _ _ _ _ hcl hg)) x.isLt y.isLt) ?_
    rintro e w' ⟨v, rfl, rfl, hgr⟩
    obtain ⟨q2, os2, hw⟩ := hgr.eq
    exact ⟨rfl, q2, os2, hw⟩
  have hcon := Try.slices_SortFunc (fun x : Fin (m + 1) => Value.int .i64 (x.val : Int)) (fun _ => rfl) (fun x y => cfT T k x y) (cf_swo hT k m) 61 #[.pointer (some ⟨gs, 0, none⟩), .pointer (some ⟨ga, 0, none⟩)] gl 0 c1 (finL m l) w2 enters_along hcmp hH hgl (by rw [hsz]; omega)
  rw [hsz] at hcon
  refine Calls.mono hcon ?_
  rintro e w' ⟨rfl, d', q, os, hp, hso, rfl⟩
  rw [← hsz] at hp hso
  have hmed := sorted_med hT hl hp hso
  have hs2 : d'.size = (finL m l).size := hp.1
  have hH2 := holds_sortWorld (fun x : Fin (m + 1) => Value.int .i64 (x.val : Int)) w2 gl 0 q (finL m l) d' os hgl hH hs2
  refine ⟨rfl, ⟨Nat.lt_of_lt_of_le hgl (sortW_size _ _ _ _ _ _ _), fun i hi j hj => ?_⟩, sortW_cl _ _ _ _ _ _ _ hcl hg⟩
  obtain rfl : j = 0 := by omega
  have hi2 : i < d'.size := by rw [hs2, hsz]; exact hi
  have := (hH2 i hi2).1
  have e0 : 0 + (i * 1 + 0) = 0 + i := by omega
  rw [e0]
  refine this.trans ?_
  rw [← hmed]
  have e1 : d'.toList[i]? = some d'[i] := (Array.getElem?_toList (xs := d') (i := i)).trans (Array.getElem?_eq_getElem hi2)
  unfold lvs
  rw [List.getD_eq_getElem?_getD, List.getElem?_map, e1, getElem!_pos _ i hi2]
  rfl

set_option maxRecDepth 100000 in
set_option maxHeartbeats 1000000 in
theorem bymed_any (T : Nat → Tr) (hT : ∀ i, (T i).Mo) (n cb cm cl k : Nat) (ab am ao : Option Addr) (l : List Nat) (w : World) (hS : Shp T w n ab am) (hL : Sl w ao l.length 1 (lvs l)) (hl : ∀ i, i ∈ l → i < n) (h0 : 0 < l.length) (h5 : l.length ≤ 512) :
    Calls Try.prog 33 #[.agg #[.slice ab n cb, .slice am n cm], .slice ao l.length cl, .int .i64 (k : Int)] w fun e w' => ∃ v, e = .returned v ∧ TwoL w w' v ((medF (keyT T k) l).take (l.length / 2)) ((medF (keyT T k) l).drop (l.length / 2)) := by
  obtain ⟨m, rfl⟩ : ∃ m, n = m + 1 := ⟨n - 1, by
    obtain ⟨i, hi⟩ := List.exists_mem_of_length_pos h0
    have := hl i hi
    omega⟩
  have HS := hid hS
  have HC := hid (iclone_any (c := cl) (hL.keep (w' := w.alloc (.cells #[.slice ab (m + 1) cb, .slice am (m + 1) cm] 58)) ((Below.refl _ _).alloc (Nat.le_refl _) _)) h0 (by omega))
  have HM := aside hl
  have HML := aside ((med_perm (keyT T k) l).length_eq)
  have HT := aside hT
  clear hS hL hl hT
  go_enter Try.func33, Try.ntmps33
  go_wp2_with fail
  refine Calls.mono HC.out ?_
  rintro e w1 ⟨gl, c1, rfl, hcap, hg1, hg2, hc, hb⟩
  have hb1 : Cl w w1 := ((Below.refl _ _).alloc (Nat.le_refl _) _).trans (hb.mono (by simp))
  have BS := hid ((Lp.Bk.al w #[.slice ab (m + 1) cb, .slice am (m + 1) cm] 58).keep hb)
  have hg3 : w.heap.size < gl := by simp at hg1; omega
  have HCE := hid hc
  have HB := hid hb1
  have HG := aside (And.intro hg2 hg3)
  clear HC hc hb hb1 hg1
  have kS := BS.out.cell
  have hmn : (w.heap.size = w1.heap.size) = False := eq_false (by omega)
  have hml : w.heap.size < w1.heap.size := by omega
  go_wp2_with fail
  refine Calls.mono (along_any _ _ _ _ _ _ _) ?_
  rintro e w2 ⟨rfl, rfl⟩
  clear kS hmn hml BS
  go_wp2_with fail
  have g1 := HG.out.1
  have g2 := HG.out.2
  have hbl := ((Below.refl w1.heap.size w1).alloc (Nat.le_refl _) (.cells #[.slice ab (m + 1) cb, .slice am (m + 1) cm] 58)).alloc (by simp) (.cells #[.int .i64 (k : Int)] 3)
  have HSO := hid (sort_any T HT.out m cb cm k gl c1 w1.heap.size (w1.heap.size + 1) ab am l w _ HS.out HM.out h5 (by omega) (by simp; omega) (fun j hj => ⟨(hbl.cell (p := ⟨gl, j, none⟩) g1).trans (HCE.out j hj).1, (hbl.frozen (p := ⟨gl, j, none⟩) g1).trans (HCE.out j hj).2⟩) ((HB.out.alloc _).alloc _) ((Lp.Bk.al w1 #[.slice ab (m + 1) cb, .slice am (m + 1) cm] 58).alo _) (Lp.Bk.al1 _ _ #[.int .i64 (k : Int)] 3) (by omega) (by omega))
  refine Calls.mono HSO.out ?_
  clear HSO
  rintro e w3 ⟨rfl, hE, hcl⟩
  have HE := hid hE
  have HCL := hid hcl
  clear hE hcl HCE
  have hq : ((l.length : Int).tdiv 2) = ((l.length / 2 : Nat) : Int) := by rw [Int.tdiv_eq_ediv_of_nonneg (by omega)]; omega
  have hh1 : l.length / 2 ≤ l.length := by omega
  generalize hhalf : l.length / 2 = h at *
  have HH := aside hhalf
  have hh2 : h ≤ c1 := by omega
  have hh3 : (c1 = h) = False := eq_false (by omega)
  have hh4 : (h = c1) = False := eq_false (by omega)
  clear hhalf
  go_wp2_with fail
  apply Lw.region _ _ 8 (by kernel_rfl) (by kernel_rfl) (by kernel_rfl) (Below.refl _ _)
  iterate 8 (
    apply Lw.one ?_ rfl
    · intro w hw
      go_simp
      exact rfl
    intro K hK
    go_simp
    refine hK.out _ ?_
    clear hK K)
  rotate_left
  exact []
  refine Lw.fin ?_
  intro v4 hm
  go_wp2_with fail
  have hml := HML.out
  have hE := HE.out.keep hm
  refine bodyPost_ret (v := .tuple #[.slice (some ⟨gl, 0, none⟩) h c1, .slice (some ⟨gl, h, none⟩) (l.length - h) (c1 - h)]) (by simp [results, go_sem]) rfl ⟨_, rfl, some ⟨gl, 0, none⟩, c1, some ⟨gl, h, none⟩, c1 - h, ?_, ?_, ?_, ?_, ?_, HCL.out.call hm⟩
  · rw [HH.out, List.length_take, List.length_drop, hml, Nat.min_eq_left hh1]
  · rw [HH.out, List.length_take, hml, Nat.min_eq_left hh1]
    exact .inr ⟨gl, 0, rfl, (hE.less hh1).congr fun i hi => (lvs_take hi).symm⟩
  · rw [HH.out, List.length_drop, hml]
    refine .inr ⟨gl, h, rfl, ?_⟩
    have := (hE.part (m := h) (l := l.length - h) (by omega)).congr (e' := lvs ((medF (keyT T k) l).drop h)) fun i hi => (lvs_drop _ _ _).symm
    rwa [Nat.mul_one, Nat.zero_add] at this
  · rintro g o ⟨rfl, rfl⟩
    omega
  · rintro g o ⟨rfl, rfl⟩
    omega

end Go.Proofs.Ytijoaklknpkdoaa

namespace Go.Proofs.Ytijoaklknpkdoaa
open Go.RowKit Fl Lm

theorem filter_more (p : Nat → Bool) {l : List Nat} {j : Nat} (hj : j < l.length) : (l.take (j + 1)).filter p = if p (l.getD j 0) = true then (l.take j).filter p ++ [l.getD j 0] else (l.take j).filter p := by
  rw [take_more hj, List.filter_append]
  by_cases h : p (l.getD j 0) = true
  · rw [if_pos h, List.filter_cons, if_pos h]; rfl
  · rw [if_neg h, List.filter_cons, if_neg h]; simp
theorem lvs_snoc {L : List Nat} {x i : Nat} (h : i < L.length) : lvs L i = lvs (L ++ [x]) i := by
  unfold lvs
  rw [List.getD_eq_getElem?_getD, List.getD_eq_getElem?_getD, List.getElem?_append_left h]
theorem lvs_last (L : List Nat) (x : Nat) : lvs (L ++ [x]) L.length = [.int .i64 (x : Int)] := by
  unfold lvs
  rw [List.getD_eq_getElem?_getD, List.getElem?_append_right (Nat.le_refl _), Nat.sub_self]
  rfl
theorem Own.snoc {N : Nat} {w w' : World} {ty : TypeId} {v v' : Value} {L : List Nat} {x : Nat} (h : Own N w ty 1 v L.length (lvs L)) (h1 : w'.ownsRow 0 ty 1 v' (L.length + 1) (flat L.length (lvs L) ++ [.int .i64 (x : Int)])) (hb : v'.ownBlock = v.ownBlock ∨ ∀ g, v'.ownBlock = some g → w.heap.size ≤ g) (hN : N ≤ w.heap.size) :
    Own N w' ty 1 v' (L ++ [x]).length (lvs (L ++ [x])) := by
  have := h.push h1 hb hN (fun i hi => lvs_snoc hi) (lvs_last L x)
  rwa [show (L ++ [x]).length = L.length + 1 by simp]
/-- What is known while a list is parted. -/
structure SplS (w0 w : World) (sv : Array Value) (l1 l2 : Value) (L1 L2 : List Nat) : Prop where
  bS : Lp.Bk w w0.heap.size sv 58
  o1 : Own (w0.heap.size + 1) w 3 1 l1 L1.length (lvs L1)
  o2 : Own (w0.heap.size + 1) w 3 1 l2 L2.length (lvs L2)
  ap : Apart2 l1 l2
  cl : Cl w0 w
section
variable {w0 w w' : World} {sv : Array Value} {l1 l2 v' : Value} {L1 L2 : List Nat} {x : Nat}
theorem SplS.keep (h : SplS w0 w sv l1 l2 L1 L2) (hb : Below w.heap.size w w') : SplS w0 w' sv l1 l2 L1 L2 := ⟨h.bS.keep hb, h.o1.keep hb, h.o2.keep hb, h.ap, h.cl.call hb⟩
theorem SplS.alo (h : SplS w0 w sv l1 l2 L1 L2) (o : Obj) : SplS w0 (w.alloc o) sv l1 l2 L1 L2 := h.keep ((Below.refl _ _).alloc (Nat.le_refl _) _)
theorem SplS.push1 (h : SplS w0 w sv l1 l2 L1 L2) (h1 : w'.ownsRow 0 3 1 v' (L1.length + 1) (flat L1.length (lvs L1) ++ [.int .i64 (x : Int)])) (hg : w.grownBy w' l1.ownBlock) (hb : v'.ownBlock = l1.ownBlock ∨ ∀ g, v'.ownBlock = some g → w.heap.size ≤ g) : SplS w0 w' sv v' l2 (L1 ++ [x]) L2 :=
  ⟨Bk_grown h.bS hg fun g e => by have := h.o1.lo g e; omega, h.o1.snoc h1 hb h.bS.lt, h.o2.other hg fun g e e2 => h.ap g e2 e, h.ap.push h.o2 hb, Cl_grown h.cl hg fun g e => by have := h.o1.lo g e; omega⟩
theorem SplS.push2 (h : SplS w0 w sv l1 l2 L1 L2) (h1 : w'.ownsRow 0 3 1 v' (L2.length + 1) (flat L2.length (lvs L2) ++ [.int .i64 (x : Int)])) (hg : w.grownBy w' l2.ownBlock) (hb : v'.ownBlock = l2.ownBlock ∨ ∀ g, v'.ownBlock = some g → w.heap.size ≤ g) : SplS w0 w' sv l1 v' L1 (L2 ++ [x]) :=
  ⟨Bk_grown h.bS hg fun g e => by have := h.o2.lo g e; omega, h.o1.other hg fun g e e2 => h.ap g e e2, h.o2.snoc h1 hb h.bS.lt, (h.ap.symm.push h.o1 hb).symm, Cl_grown h.cl hg fun g e => by have := h.o2.lo g e; omega⟩
end

set_option maxRecDepth 100000 in
set_option maxHeartbeats 1000000 in
theorem bysur_any (T : Nat → Tr) (hT : ∀ i, (T i).Mo) (n cb cm cl b0 b1 b2 b3 : Nat) (ab am ao : Option Addr) (l : List Nat) (w : World) (hS : Shp T w n ab am) (hL : Sl w ao l.length 1 (lvs l)) (hl : ∀ i, i ∈ l → i < n) (h0 : 0 < l.length) (h5 : l.length ≤ 512)
    (ha : (ford (hiT T l) (loT T l) == some .gt) = true) (hF : BinFn w n am (axT T l) (loT T l) (hiT T l) b0 b1 b2 b3) :
    Calls Try.prog 31 #[.agg #[.slice ab n cb, .slice am n cm], .slice ao l.length cl, binV b0 b1 b2 b3] w fun e w' => ∃ v, e = .returned v ∧ TwoL w w' v (leftT T l (cutT T l)) (restT T l (cutT T l)) := by
  obtain ⟨hB, ⟨i0, hi0, _⟩, _⟩ := apart_of hT h0 ha
  have hc := fun k k1 k7 => (costs_same hT h0 h5 ha (k := k) k1 k7).1
  have hcnt : ∀ i, i < 8 → (binsT T l i).1 ≤ 512 := fun i _ => by
    rw [(bins_P hT l).cnt i]
    exact Nat.le_trans (List.length_filter_le _ _) h5
  have nl := (num_of_sub (hB i0 hi0).s1).2
  have nh := (num_of_sub (hB i0 hi0).s2).1
  have HBIN := hid (fun w' (hw : Below w.heap.size w w') => binned_any T hT n cb cm cl (axT T l) (loT T l) (hiT T l) b0 b1 b2 b3 ab am ao l w' (hS.keep hw) (hL.keep hw) hl h5 (hF.keep hw) nl nh hB)
  have HCH := hid (fun w' => cheapest_any (binsT T l) hcnt hc w')
  have eb : binsG (fun i => (binF (loT T l) (hiT T l) (keyT T (axT T l) i)).toNat) T l = binsT T l := rfl
  have ec : (bestP (cP (binsT T l)) 7).1 = cutT T l := rfl
  rw [eb] at HBIN
  rw [ec] at HCH
  have HB1 : Hid (∀ (w' : World), Below w.heap.size w w' → ∀ i, i ∈ l → Ret Try.prog 43 #[.int .i64 (i : Int), .pointer (some ⟨b0, 0, none⟩), .pointer (some ⟨b1, 0, none⟩), .pointer (some ⟨b2, 0, none⟩), .pointer (some ⟨b3, 0, none⟩)] w' (fun v => v = .int .i64 (binT T l i))) := hid (fun w' (hw : Below w.heap.size w w') i hi => bin1_any T hT n (axT T l) (loT T l) (hiT T l) b0 b1 b2 b3 i am w' (hF.keep hw) (hS.keep hw).md (hl i hi) nl nh (hB i hi))
  have HL := hid hL
  unfold leftT restT
  generalize binsT T l = BB at *
  generalize cutT T l = cut at *
  generalize binA BB = BA at *
  generalize binT T l = bz at *
  have hml := aside hl
  obtain ⟨iI, hI0, hI1, hI2, hI3⟩ := info_int
  clear hS hL hl hB hF hc hcnt eb ec nl nh
  have HH := aside (And.intro h0 h5)
  clear h0 ha
  unfold binV at *
  go_enter Try.func31, Try.ntmps31
  go_wp2_with fail
  refine Calls.mono (HBIN.out _ ((Below.refl _ _).alloc (Nat.le_refl _) _)) ?_
  rintro e w1 ⟨v, rfl, rfl, hm⟩
  have BS := (Lp.Bk.al w #[.slice ab n cb, .slice am n cm] 58).keep hm
  have HB : Cl w w1 := ((Below.refl _ _).alloc (Nat.le_refl _) _).trans (hm.mono (by simp))
  clear hm HBIN
  go_wp2_with fail
  refine Calls.mono (HCH.out _) ?_
  rintro e w2 ⟨v, rfl, rfl, hm⟩
  replace BS := BS.keep hm
  replace HB := HB.call hm
  clear hm HCH
  go_wp2_with fail
  go_loopg [6, 7, 18] l.length (fun kk l1 l2 i wr => ∃ (j : Nat), kk + j = l.length ∧ i = .int .i64 (j : Int) ∧ SplS w wr #[.slice ab n cb, .slice am n cm] l1 l2 ((l.take j).filter fun i => decide (bz i < (cut : Int))) ((l.take j).filter fun i => !decide (bz i < (cut : Int))))
  case atStart => exact ⟨0, Nat.add_zero _, rfl, BS, Own.nil _ _ _ _ _, Own.nil _ _ _ _ _, fun g h => (by cases h), HB⟩
  case round =>
    clear BS HB
    obtain ⟨g0, hg0⟩ : ∃ g0, g0 = gk := ⟨_, rfl⟩
    subst hg0
    obtain ⟨j, hk, rfl, hS⟩ := hrel
    have HK := aside hk
    clear hk
    by_cases hj : j < l.length
    · have hd : ((j : Int) < (l.length : Int)) = True := eq_true (by omega)
      have hmem := getD_mem hj
      have HBX := hid (HB1.out wr hS.cl _ hmem)
      obtain ⟨gl, ol, rfl, EL⟩ := (HL.out.keep hS.cl).get hj
      have kL := EL.num hj
      have HE1 := aside (filter_more (fun i => decide (bz i < (cut : Int))) hj)
      have HE2 := aside (filter_more (fun i => !decide (bz i < (cut : Int))) hj)
      have hl1 : ((l.take j).filter fun i => decide (bz i < (cut : Int))).length ≤ j := Nat.le_trans (List.length_filter_le _ _) (by rw [List.length_take]; omega)
      have hl2 : ((l.take j).filter fun i => !decide (bz i < (cut : Int))).length ≤ j := Nat.le_trans (List.length_filter_le _ _) (by rw [List.length_take]; omega)
      have HLE := aside (And.intro hl1 (And.intro hl2 h5))
      have hj5 : j < 512 := by omega
      have hjl := aside hj
      clear EL hmem hj hl1 hl2
      generalize (l.take j).filter (fun i => decide (bz i < (cut : Int))) = L1 at *
      generalize (l.take j).filter (fun i => !decide (bz i < (cut : Int))) = L2 at *
      generalize l.getD j 0 = x at *
      generalize bz x = z at *
      obtain ⟨a1, c1, rfl⟩ := hS.o1.slice
      obtain ⟨a2, c2, rfl⟩ := hS.o2.slice
      have HS := hid hS
      clear hS
      by_cases hp : z < (cut : Int)
      · have hp1 : (z < (cut : Int)) = True := eq_true hp
        have HE1' := aside (HE1.out.trans (if_pos (decide_eq_true hp)))
        have HE2' := aside (HE2.out.trans (if_neg (by rw [decide_eq_true hp]; decide)))
        clear HE1 HE2 hp
        go_wp2_with fail
        refine Calls.mono HBX.out ?_
        rintro e v5 ⟨v, rfl, rfl, hm⟩
        have HS2 := hid (HS.out.keep hm)
        clear hm kL HS HBX
        go_wp2_with ((at_builtin; refine wpList_push _ rfl _ _ 36 rfl 3 iI (.int .i64 0) 1 8 under_ints hI0 hI1 hI2 hI3 rfl (by decide) (.slice a1 L1.length c1) L1.length (flat L1.length (lvs L1)) rfl (HS2.out.o1.row.alloc _) ⟨v5.heap.size, 0, none⟩ 1 1 [.int .i64 (x : Int)] rfl rfl (cells_at0 (Lp.Bk.al _ _ _)) (by simp [Value.oneCell']) (max_small (by have := HLE.out; omega)) (by have := HLE.out; omega) ?_))
        intro v' w7 hown hg hb
        have HS3 := hid ((HS2.out.alo _).push1 hown hg (hb.imp id fun h k hk => by have := h k hk; simp at this ⊢; omega))
        obtain ⟨a3, c3, rfl, -⟩ := owns_slice hown
        clear hown hg hb HS2
        go_wp2_with fail
        go_roundg (g0 - 1)
        case measure => have := HK.out; have := hjl.out; omega
        case rel =>
          refine ⟨j + 1, by have := HK.out; have := hjl.out; omega, by go_num, ?_⟩
          rw [HE1'.out, HE2'.out]
          exact HS3.out
      · have hp1 : (z < (cut : Int)) = False := eq_false hp
        have HE1' := aside (HE1.out.trans (if_neg (by rw [decide_eq_false hp]; decide)))
        have HE2' := aside (HE2.out.trans (if_pos (by rw [decide_eq_false hp]; rfl)))
        clear HE1 HE2 hp
        go_wp2_with fail
        refine Calls.mono HBX.out ?_
        rintro e v5 ⟨v, rfl, rfl, hm⟩
        have HS2 := hid (HS.out.keep hm)
        clear hm kL HS HBX
        go_wp2_with ((at_builtin; refine wpList_push _ rfl _ _ 36 rfl 3 iI (.int .i64 0) 1 8 under_ints hI0 hI1 hI2 hI3 rfl (by decide) (.slice a2 L2.length c2) L2.length (flat L2.length (lvs L2)) rfl (HS2.out.o2.row.alloc _) ⟨v5.heap.size, 0, none⟩ 1 1 [.int .i64 (x : Int)] rfl rfl (cells_at0 (Lp.Bk.al _ _ _)) (by simp [Value.oneCell']) (max_small (by have := HLE.out; omega)) (by have := HLE.out; omega) ?_))
        intro v' w7 hown hg hb
        have HS3 := hid ((HS2.out.alo _).push2 hown hg (hb.imp id fun h k hk => by have := h k hk; simp at this ⊢; omega))
        obtain ⟨a3, c3, rfl, -⟩ := owns_slice hown
        clear hown hg hb HS2
        go_wp2_with fail
        go_roundg (g0 - 1)
        case measure => have := HK.out; have := hjl.out; omega
        case rel =>
          refine ⟨j + 1, by have := HK.out; have := hjl.out; omega, by go_num, ?_⟩
          rw [HE1'.out, HE2'.out]
          exact HS3.out
    · have hd : ((j : Int) < (l.length : Int)) = False := eq_false (by omega)
      have hjl : j = l.length := by have := HK.out; omega
      subst hjl
      rw [List.take_of_length_le (Nat.le_refl _)] at hS
      obtain ⟨a1, c1, rfl⟩ := hS.o1.slice
      obtain ⟨a2, c2, rfl⟩ := hS.o2.slice
      have HS := hid hS
      clear hS hj
      go_wp2_with fail
      refine bodyPost_ret (v := _) (by simp [results, go_sem]) rfl ⟨_, rfl, a1, c1, a2, c2, rfl, HS.out.o1.sl (fun _ _ => rfl), HS.out.o2.sl (fun _ _ => rfl), ?_, ?_, HS.out.cl⟩
      · rintro g o rfl
        have := HS.out.o1.lo g rfl
        omega
      · rintro g o rfl
        have := HS.out.o2.lo g rfl
        omega

end Go.Proofs.Ytijoaklknpkdoaa

namespace Go.Proofs.Ytijoaklknpkdoaa
open Go.RowKit Fl Lm

theorem TwoL.along {w0 w w' : World} {v : Value} {x y : List Nat} (h : TwoL w0 w v x y) (hb : Below w.heap.size w w') : TwoL w0 w' v x y := by
  obtain ⟨a, c, b, d, e, h1, h2, h3, h4, h5⟩ := h
  exact ⟨a, c, b, d, e, h1.keep hb, h2.keep hb, h3, h4, h5.call hb⟩
theorem TwoL.back {w0 w w' : World} {v : Value} {x y : List Nat} (h : TwoL w w' v x y) (hb : Cl w0 w) : TwoL w0 w' v x y := by
  obtain ⟨a, c, b, d, e, h1, h2, h3, h4, h5⟩ := h
  have hz : w0.heap.size ≤ w.heap.size := hb.size
  exact ⟨a, c, b, d, e, h1, h2, fun g o h => Nat.le_trans hz (h3 g o h), fun g o h => Nat.le_trans hz (h4 g o h), hb.call h5⟩

set_option maxRecDepth 100000 in
set_option maxHeartbeats 1000000 in
theorem parter1_any (T : Nat → Tr) (hT : ∀ i, (T i).Mo) (sur : Bool) (n cb cm cl gs gu : Nat) (ab am ao : Option Addr) (l : List Nat) (w : World) (BS : Lp.Bk w gs #[.slice ab n cb, .slice am n cm] 58) (BU : Lp.Bk w gu #[.bool sur] 4) (hS : Shp T w n ab am) (hL : Sl w ao l.length 1 (lvs l)) (hl : ∀ i, i ∈ l → i < n) (h4 : 4 < l.length) (h5 : l.length ≤ 512) :
    Calls Try.prog 28 #[.slice ao l.length cl, .pointer (some ⟨gs, 0, none⟩), .pointer (some ⟨gu, 0, none⟩)] w fun e w' => ∃ v, e = .returned v ∧ TwoL w w' v (partT T sur l).1 (partT T sur l).2 := by
  have HAM : Hid (∀ w', Below w.heap.size w w' → Ret Try.prog 29 #[.agg #[.slice ab n cb, .slice am n cm], .slice ao l.length cl] w' (fun v => v = .agg #[.float .f64 (mds T l).a0, .float .f64 (mds T l).a1, .float .f64 (mds T l).a2, .float .f64 (mds T l).a3, .float .f64 (mds T l).a4, .float .f64 (mds T l).a5])) :=
    hid (fun w' hw => amid_any T n cb cm cl ab am ao l w' (hS.keep hw) (hL.keep hw) hl h5)
  have HLO : Hid (∀ w', Ret Try.prog 30 #[.agg #[.float .f64 (mds T l).a0, .float .f64 (mds T l).a1, .float .f64 (mds T l).a2, .float .f64 (mds T l).a3, .float .f64 (mds T l).a4, .float .f64 (mds T l).a5]] w' (fun v => v = .int .i64 (axT T l : Int))) := hid (fun w' => longest_any _ _ _ _ _ _ w')
  have HPL : Hid (∀ w', Ret Try.prog 21 #[.agg #[.float .f64 (mds T l).a0, .float .f64 (mds T l).a1, .float .f64 (mds T l).a2], .int .i64 (axT T l : Int)] w' (fun v => v = .float .f64 (loT T l))) := hid (fun w' => (gpart_any ⟨(mds T l).a0, (mds T l).a1, (mds T l).a2⟩ (axT T l) w').ret)
  have HPH : Hid (∀ w', Ret Try.prog 21 #[.agg #[.float .f64 (mds T l).a3, .float .f64 (mds T l).a4, .float .f64 (mds T l).a5], .int .i64 (axT T l : Int)] w' (fun v => v = .float .f64 (hiT T l))) := hid (fun w' => (gpart_any ⟨(mds T l).a3, (mds T l).a4, (mds T l).a5⟩ (axT T l) w').ret)
  have HSU : Hid (sur = true → (ford (hiT T l) (loT T l) == some .gt) = true → ∀ w' b0 b1 b2 b3, Below w.heap.size w w' → BinFn w' n am (axT T l) (loT T l) (hiT T l) b0 b1 b2 b3 →
      Calls Try.prog 31 #[.agg #[.slice ab n cb, .slice am n cm], .slice ao l.length cl, binV b0 b1 b2 b3] w' fun e w'' => ∃ v, e = .returned v ∧ TwoL w' w'' v (partT T sur l).1 (partT T sur l).2) := hid (fun hs ha w' b0 b1 b2 b3 hw hF => by
    subst hs
    rw [(part_sur hT (by omega) h5 ha).1]
    exact bysur_any T hT n cb cm cl b0 b1 b2 b3 ab am ao l w' (hS.keep hw) (hL.keep hw) hl (by omega) h5 ha hF)
  have HME : Hid ((sur = false ∨ (ford (hiT T l) (loT T l) == some .gt) = false) → ∀ w', Below w.heap.size w w' →
      Calls Try.prog 33 #[.agg #[.slice ab n cb, .slice am n cm], .slice ao l.length cl, .int .i64 (axT T l : Int)] w' fun e w'' => ∃ v, e = .returned v ∧ TwoL w' w'' v (partT T sur l).1 (partT T sur l).2) := hid (fun hs w' hw => by
    rw [part_med hs, show (medT T l).length = l.length from (med_perm _ l).length_eq]
    exact bymed_any T hT n cb cm cl (axT T l) ab am ao l w' (hS.keep hw) (hL.keep hw) hl (by omega) h5)
  clear hS hL hl h4 h5
  generalize axT T l = k at *
  generalize loT T l = lo at *
  generalize hiT T l = hi at *
  generalize (partT T sur l).1 = X at *
  generalize (partT T sur l).2 = Y at *
  generalize (mds T l).a0 = m0 at *
  generalize (mds T l).a1 = m1 at *
  generalize (mds T l).a2 = m2 at *
  generalize (mds T l).a3 = m3 at *
  generalize (mds T l).a4 = m4 at *
  generalize (mds T l).a5 = m5 at *
  clear hT
  have kS := BS.cell
  go_enter Try.func28, Try.ntmps28
  go_wp2_with fail
  refine Calls.mono (HAM.out _ (Below.refl _ _)) ?_
  rintro e w1 ⟨v, rfl, rfl, hm⟩
  have HB : Cl w w1 := hm
  clear hm HAM kS
  go_wp2_with fail
  refine Lp.settleC (fun w' => Lp.Bk w' w1.heap.size #[.float .f64 m0, .float .f64 m1, .float .f64 m2, .float .f64 m3, .float .f64 m4, .float .f64 m5] 27 ∧ Cl w w') ⟨Lp.Bk.al _ _ _, HB.alloc _⟩ ?_
  clear HB
  rintro v2 ⟨BM, HB⟩
  have kM := BM.cell
  go_wp2_with fail
  refine Calls.mono (HLO.out _) ?_
  rintro e v3 ⟨v, rfl, rfl, hm⟩
  replace BM := BM.keep hm
  replace HB := HB.call hm
  clear hm HLO kM
  go_wp2_with fail
  apply Lw.region _ _ 10 (by kernel_rfl) (by kernel_rfl) (by kernel_rfl) (Below.refl _ _)
  apply Lw.facts
  · intro w1 hw
    exact (BM.cl hw).cell
  intro HF
  iterate 3 (
    apply Lw.one ?_ rfl
    · intro w hw
      have k0 := HF.out _ hw
      go_simp
      exact rfl
    intro K hK
    go_simp
    refine hK.out _ ?_
    clear hK K)
  apply Lw.any rfl
  · intro w hw
    go_simp
    exact Lw.ret (HPL.out _)
  intro K hK
  rintro v rfl
  go_simp
  refine hK.out _ ?_
  clear hK K
  iterate 3 (
    apply Lw.one ?_ rfl
    · intro w hw
      have k0 := HF.out _ hw
      go_simp
      exact rfl
    intro K hK
    go_simp
    refine hK.out _ ?_
    clear hK K)
  apply Lw.any rfl
  · intro w hw
    go_simp
    exact Lw.ret (HPH.out _)
  intro K hK
  rintro v rfl
  go_simp
  refine hK.out _ ?_
  clear hK K
  iterate 2 (
    apply Lw.one ?_ rfl
    · intro w hw
      have k0 := HF.out _ hw
      go_simp
      exact rfl
    intro K hK
    go_simp
    refine hK.out _ ?_
    clear hK K)
  rotate_left
  exact []
  refine Lw.fin ?_
  intro v4 hm
  replace HB := HB.call hm
  clear hm HF BM HPL HPH
  have kU := (BU.keep HB).cell
  have kS := (BS.keep HB).cell
  by_cases hsu : sur = true
  · by_cases hgt : (ford hi lo == some .gt) = true
    · subst hsu
      have hsu : true = true := rfl
      have hp : (FloatKind.f64.format.order hi lo == some .gt) = true := hgt
      go_wp2_with fail
      apply Lw.region _ _ 12 (by kernel_rfl) (by kernel_rfl) (by kernel_rfl) (Below.refl _ _)
      apply Lw.facts
      · intro w1 hw
        exact (BS.keep (HB.call hw)).cell
      intro HF
      iterate 6 (
        apply Lw.one ?_ rfl
        · intro w hw
          have k0 := HF.out _ hw
          go_simp
          exact rfl
        intro K hK
        go_simp
        refine hK.out _ ?_
        clear hK K)
      apply Lw.anyW (V := fun v w' => ∃ b0 b1 b2 b3, v = binV b0 b1 b2 b3 ∧ BinFn w' n am k lo hi b0 b1 b2 b3) rfl
      · exact fun v x y hb ⟨b0, b1, b2, b3, e, h⟩ => ⟨b0, b1, b2, b3, e, h.keep hb⟩
      · intro w5 hw _
        go_simp
        refine Calls.mono (binner_any n cb cm k lo hi ab am w5) ?_
        rintro e w6 ⟨b0, b1, b2, b3, rfl, hF, hb⟩
        exact ⟨_, rfl, ⟨b0, b1, b2, b3, rfl, hF⟩, hb⟩
      intro K hK v hv
      obtain ⟨_, _, b0, b1, b2, b3, rfl, _⟩ := hv
      unfold binV
      go_simp
      refine hK.out _ _ ?_
      clear hK K
      apply Lw.anyW (V := fun v w' => TwoL v4 w' v X Y) rfl
      · exact fun v x y hb h => h.along hb
      · intro w5 hw hN
        obtain ⟨c0, c1, c2, c3, e, hF⟩ := (hN 6 (by kernel_rfl)).2 rfl
        simp [binV] at e
        obtain ⟨rfl, rfl, rfl, rfl⟩ := e
        go_simp
        refine Calls.mono (HSU.out hsu hgt w5 b0 b1 b2 b3 (HB.call hw) hF) ?_
        rintro e w6 ⟨v, rfl, h⟩
        have h2 := h
        obtain ⟨_, _, _, _, _, _, _, _, _, hcl⟩ := h2
        exact ⟨v, rfl, h.back hw, hcl⟩
      intro K hK v hv
      obtain ⟨_, _, a, c, b, d, rfl, _⟩ := hv
      go_simp
      refine hK.out _ _ ?_
      clear hK K
      iterate 4 (
        apply Lw.one ?_ rfl
        · intro w hw
          go_simp
          exact rfl
        intro K hK
        go_simp
        refine hK.out _ ?_
        clear hK K)
      rotate_left
      exact []
      refine Lw.finE ?_
      intro v5 hm hE
      have hT2 : TwoL v4 v5 (.tuple #[.slice a X.length c, .slice b Y.length d]) X Y := (hE 7).2 rfl
      clear hE hm HF HSU HME
      go_wp2_with fail
      exact bodyPost_ret (v := _) (by simp [results, go_sem]) rfl ⟨_, rfl, hT2.back HB⟩
    · have hgf : (ford hi lo == some .gt) = false := by simpa using hgt
      clear hgt
      subst hsu
      have hp : (FloatKind.f64.format.order hi lo == some .gt) = false := hgf
      go_wp2_with fail
      refine Calls.mono (HME.out (.inr hgf) _ HB) ?_
      rintro e v5 ⟨v, rfl, hT2⟩
      have hT3 := hT2
      obtain ⟨a, c, b, d, rfl, _⟩ := hT3
      clear HME HSU kU kS
      go_wp2_with fail
      exact bodyPost_ret (v := _) (by simp [results, go_sem]) rfl ⟨_, rfl, hT2.back HB⟩
  · have hsf : sur = false := by simpa using hsu
    clear hsu
    subst hsf
    go_wp2_with fail
    refine Calls.mono (HME.out (by simp) _ HB) ?_
    rintro e v5 ⟨v, rfl, hT2⟩
    have hT3 := hT2
    obtain ⟨a, c, b, d, rfl, _⟩ := hT3
    clear HME HSU kU kS
    go_wp2_with fail
    exact bodyPost_ret (v := _) (by simp [results, go_sem]) rfl ⟨_, rfl, hT2.back HB⟩

set_option maxRecDepth 100000 in
set_option maxHeartbeats 1000000 in
theorem parter_any (n cb cm : Nat) (ab am : Option Addr) (sur : Bool) (w : World) : Calls Try.prog 22 #[.agg #[.slice ab n cb, .slice am n cm], .bool sur] w fun e w' => e = .returned (.func (.func 28) #[] #[.pointer (some ⟨w.heap.size, 0, none⟩), .pointer (some ⟨w.heap.size + 1, 0, none⟩)]) ∧ w' = (w.alloc (.cells #[.slice ab n cb, .slice am n cm] 58)).alloc (.cells #[.bool sur] 4) := by
  go_enter Try.func22, Try.ntmps22
  go_wp2_with fail
  go_ret
  exact ⟨rfl, rfl⟩

end Go.Proofs.Ytijoaklknpkdoaa

namespace Go.Proofs.Ytijoaklknpkdoaa
open Go.RowKit Fl Lm

/-- All blocks but those of S are as they were. -/
structure Fr (S : Nat → Prop) (w w' : World) : Prop where
  os : w'.os = w.os
  tape : w'.tape = w.tape
  output : w'.output = w.output
  size : w.heap.size ≤ w'.heap.size
  block : ∀ k, k < w.heap.size → ¬ S k → w'.heap[k]? = w.heap[k]?
section
variable {S S' : Nat → Prop} {w w' w'' W : World}
theorem Fr.refl (w : World) : Fr S w w := ⟨rfl, rfl, rfl, Nat.le_refl _, fun _ _ _ => rfl⟩
theorem Fr.of (h : Below w.heap.size w w') : Fr S w w' := ⟨h.os, h.tape, h.output, h.size, fun k hk _ => h.block k hk⟩
theorem Fr.trans (h : Fr S w w') (k : Fr S' w' w'') (hs : ∀ i, i < w.heap.size → S' i → S i) : Fr S w w'' :=
  ⟨k.os.trans h.os, k.tape.trans h.tape, k.output.trans h.output, Nat.le_trans h.size k.size, fun i hi hn => (k.block i (Nat.lt_of_lt_of_le hi h.size) fun e => hn (hs i hi e)).trans (h.block i hi hn)⟩
theorem Fr.weak (h : Fr S' w w') (hs : ∀ i, S' i → S i) : Fr S w w' := ⟨h.os, h.tape, h.output, h.size, fun i hi hn => h.block i hi fun e => hn (hs i e)⟩
theorem Fr.grown {row : Option Nat} (h : w.grownBy w' row) : Fr (fun k => row = some k) w w' := ⟨h.os, h.tape, h.output, h.size, fun k hk hn => h.block k hk fun e => hn e.symm⟩
theorem Fr.set (w : World) (p : Addr) (u : Value) : Fr (fun k => k = p.block) w (w.setCell p u) := ⟨rfl, rfl, rfl, by simp [World.setCell], fun k _ hn => Below.heap_setCell _ _ _ _ hn⟩
theorem Fr.cl (h : Fr S w w') (hc : Cl W w) (hs : ∀ i, S i → W.heap.size ≤ i) : Cl W w' :=
  ⟨h.os.trans hc.os, h.tape.trans hc.tape, h.output.trans hc.output, Nat.le_trans hc.size h.size, fun i hi => (h.block i (Nat.lt_of_lt_of_le hi hc.size) fun e => by have := hs i e; omega).trans (hc.block i hi)⟩
theorem Fr.bk {b : Nat} {vs : Array Value} {t : TypeId} (h : Fr S w w') (hb : Lp.Bk w b vs t) (hn : ¬ S b) : Lp.Bk w' b vs t := (h.block b hb.lt hn).trans hb
theorem Fr.els {g off n k : Nat} {e : Nat → List Value} (h : Fr S w w') (he : Els w g off n k e) (hn : ¬ S g) : Els w' g off n k e := he.same (h.block g he.lt hn)
theorem Fr.own {N : Nat} {ty : TypeId} {k n : Nat} {v : Value} {e : Nat → List Value} (h : Fr S w w') (ho : Own N w ty k v n e) (hn : ∀ g, v.ownBlock = some g → ¬ S g) : Own N w' ty k v n e := by
  refine ⟨?_, ho.lo⟩
  obtain ⟨h1, h2⟩ := ho.row
  refine ⟨h1, ?_⟩
  rcases h2 with h2 | ⟨g, cap, cur, hv, hg, hh, r⟩
  · exact .inl h2
  · exact .inr ⟨g, cap, cur, hv, hg, (h.block g (Array.getElem?_eq_some_iff.1 hh).1 (hn g (by rw [hv]; rfl))).trans hh, r⟩
end
/-- A row that append left: the same block, or a new one. -/
def Newer (w : World) (v v' : Value) : Prop := v'.ownBlock = v.ownBlock ∨ ∀ g, v'.ownBlock = some g → w.heap.size ≤ g
theorem Newer.refl (w : World) (v : Value) : Newer w v v := .inl rfl
theorem Newer.back {w w0 : World} {v v' : Value} (h : Newer w v v') (hs : w0.heap.size ≤ w.heap.size) : Newer w0 v v' := h.imp id fun h g e => Nat.le_trans hs (h g e)
theorem Own.alo {N : Nat} {w : World} {ty : TypeId} {k n : Nat} {v : Value} {e : Nat → List Value} (h : Own N w ty k v n e) (o : Obj) : Own N (w.alloc o) ty k v n e := h.keep ((Below.refl _ _).alloc (Nat.le_refl _) _)
theorem Own.sete {N : Nat} {w : World} {ty : TypeId} {k n : Nat} {v : Value} {e : Nat → List Value} (h : Own N w ty k v n e) {p : Addr} (hne : ∀ g, v.ownBlock = some g → g ≠ p.block) (u : Value) : Own N (w.setCell p u) ty k v n e := (Fr.set w p u).own h hne

/-! Numbers in rows. -/
def numV (i : Nat) : Value := .int .i64 (i : Int)
theorem flat_nums (l : List Nat) : flat l.length (lvs l) = l.map numV := by
  unfold flat
  apply List.ext_getElem?
  intro j
  by_cases hj : j < l.length
  · have := flat_at (n := l.length) (k := 1) (e := lvs l) (fun _ _ => rfl) hj (j := 0) (by omega)
    rw [Nat.mul_one, Nat.add_zero] at this
    unfold flat at this
    rw [this, List.getElem?_map, List.getElem?_eq_getElem hj]
    simp [lvs, numV, List.getD_eq_getElem?_getD, List.getElem?_eq_getElem hj]
  · have h1 := flat_len (n := l.length) (k := 1) (e := lvs l) (fun _ _ => rfl)
    unfold flat at h1
    rw [List.getElem?_eq_none (by omega), List.getElem?_eq_none (by simp; omega)]
theorem nums_one (l : List Nat) : ∀ u ∈ l.map numV, u.oneCell' = true := by
  intro u hu
  obtain ⟨i, _, rfl⟩ := List.mem_map.1 hu
  rfl
theorem Els.news {w : World} {g off : Nat} {l : List Nat} (h : Els w g off l.length 1 (lvs l)) : ∀ j u, (l.map numV)[j]? = some u → w.cell? ((⟨g, off, none⟩ : Addr).add j) = some u := by
  intro j u hj
  have hlt : j < l.length := by
    have := (List.getElem?_eq_some_iff.1 hj).1
    simpa using this
  rw [addr_off, h.num hlt, ← hj, List.getElem?_map, List.getElem?_eq_getElem hlt, List.getD_eq_getElem?_getD, List.getElem?_eq_getElem hlt]
  rfl
theorem Own.more {N : Nat} {w w' : World} {v v' : Value} {O l : List Nat} (h : Own N w 3 1 v O.length (lvs O)) (h1 : w'.ownsRow 0 3 1 v' (O.length + l.length) (flat O.length (lvs O) ++ l.map numV)) (hb : Newer w v v') (hN : N ≤ w.heap.size) : Own N w' 3 1 v' (O ++ l).length (lvs (O ++ l)) := by
  refine ⟨?_, fun g hg => ?_⟩
  · rw [flat_nums, List.map_append, List.length_append, ← flat_nums O]
    exact h1
  · rcases hb with hb | hb
    · exact h.lo g (hb ▸ hg)
    · exact Nat.le_trans hN (hb g hg)

theorem sort_nums (l : List Nat) : (l.map fun i : Nat => (i : Int)).mergeSort (fun x y => decide (x ≤ y)) = (riseF l).map fun i : Nat => (i : Int) := by
  have hp := List.mergeSort_perm (l.map fun i : Nat => (i : Int)) (fun x y => decide (x ≤ y))
  have hs := List.pairwise_mergeSort (le := fun x y : Int => decide (x ≤ y)) (by intro a b c; simp; omega) (by intro a b; simp; omega) (l.map fun i : Nat => (i : Int))
  generalize (l.map fun i : Nat => (i : Int)).mergeSort (fun x y => decide (x ≤ y)) = m at *
  have h1 : (m.map Int.toNat).Perm l := by
    have := hp.map Int.toNat
    rw [List.map_map] at this
    have e : (Int.toNat ∘ fun i : Nat => (i : Int)) = id := by funext i; simp
    rwa [e, List.map_id] at this
  have h2 : (m.map Int.toNat).Pairwise (· ≤ ·) := by
    rw [List.pairwise_map]
    refine hs.imp fun h => ?_
    have := of_decide_eq_true h
    omega
  have h3 : ∀ x, x ∈ m → (x.toNat : Int) = x := by
    intro x hx
    obtain ⟨i, _, rfl⟩ := List.mem_map.1 (hp.mem_iff.1 hx)
    simp
  rw [← rise_uniq h1 h2, List.map_map]
  conv => lhs; rw [← List.map_id m]
  exact List.map_congr_left fun x hx => (h3 x hx).symm
theorem fr_sort (w : World) (g off n : Nat) (d : Array Int) (os : Array Obj) : Fr (fun k => k = g) w (Sort.grow (Sort.putRow (Value.int .i64) (Sort.ahead w n) g off d) os) := by
  refine ⟨rfl, rfl, rfl, by rw [Sort.size_grow, Sort.size_putRow]; show w.heap.size ≤ w.heap.size + _; omega, fun k hk hn => ?_⟩
  rw [Sort.heap_grow_old _ _ (by rw [Sort.size_putRow]; exact hk)]
  show (w.heap.modify g _)[k]? = _
  rw [Array.getElem?_modify, if_neg (fun e => hn e.symm)]
/-- A row's last part, sorted. -/
theorem own_sort {N : Nat} {w : World} {g cap : Nat} {O l : List Nat} (n : Nat) (os : Array Obj) (h : Own N w 3 1 (.slice (some ⟨g, 0, none⟩) (O.length + l.length) cap) (O ++ l).length (lvs (O ++ l))) :
    Own N (Sort.grow (Sort.putRow (Value.int .i64) (Sort.ahead w n) g O.length ((riseF l).map fun i : Nat => (i : Int)).toArray) os) 3 1 (.slice (some ⟨g, 0, none⟩) (O.length + l.length) cap) (O ++ riseF l).length (lvs (O ++ riseF l)) := by
  refine ⟨?_, h.lo⟩
  have hl := rise_len l
  obtain ⟨h1, h2⟩ := h.row
  rw [flat_nums] at h1 h2 ⊢
  rcases h2 with ⟨h2, _⟩ | ⟨g', cap', cur, hv, hg, hh, hc1, hc2, hc3, hc4⟩
  · cases h2
  · injection hv with e1 e2 e3
    injection e1 with e1
    injection e1 with e1
    subst e1
    subst e3
    have hlt := (Array.getElem?_eq_some_iff.1 hh).1
    have hlen : (O ++ l).length = O.length + l.length := List.length_append
    have hlen2 : (O ++ riseF l).length = O.length + l.length := by rw [List.length_append, hl]
    refine ⟨by simp, .inr ⟨g, cap, Sort.putCells (Value.int .i64) O.length ((riseF l).map fun i : Nat => (i : Int)).toArray cur, ?_, hg, ?_, ?_, hc2, ?_, ?_⟩⟩
    · rw [hlen2]
    · rw [Sort.heap_grow_old _ _ (by rw [Sort.size_putRow]; exact hlt)]
      simp [Sort.putRow, Sort.mapBlock, Sort.ahead, Array.getElem?_modify, hh, Sort.onCells]
    · omega
    · simp [Sort.putCells, hc3]
    · rw [hlen2]
      rw [hlen] at hc4
      apply List.ext_getElem?
      intro j
      by_cases hj : j < O.length + l.length
      · have hcj : cur.toList[j]? = ((O ++ l).map numV)[j]? := by rw [← hc4, List.getElem?_take_of_lt (by omega)]
        rw [List.getElem?_take_of_lt (by omega), Array.getElem?_toList]
        simp only [Sort.putCells, Array.getElem?_mapIdx]
        rw [← Array.getElem?_toList, hcj, List.getElem?_map, List.getElem?_map]
        by_cases hj2 : j < O.length
        · rw [List.getElem?_append_left hj2, List.getElem?_append_left hj2, List.getElem?_eq_getElem hj2]
          simp only [Option.map_some]
          rw [if_neg (by omega)]
        · rw [List.getElem?_append_right (by omega), List.getElem?_append_right (by omega), List.getElem?_eq_getElem (show j - O.length < l.length by omega), List.getElem?_eq_getElem (show j - O.length < (riseF l).length by omega)]
          simp only [Option.map_some]
          rw [if_pos ⟨by omega, by simp [hl]; omega⟩]
          simp [numV, show j - O.length < (riseF l).length by omega]
      · rw [List.getElem?_take_eq_none (by omega), List.getElem?_eq_none (by simp [hl]; omega)]

/-! The tree as it is built. -/
def nd0 : Nd := ⟨⟨0, 0, 0, 0, 0, 0⟩, 0, 0, 0, 0⟩
def nds (D : List Nd) (i : Nat) : List Value := dcs (D.getD i nd0)
theorem nds_snoc {D : List Nd} {x : Nd} {i : Nat} (h : i < D.length) : nds D i = nds (D ++ [x]) i := by
  unfold nds
  rw [List.getD_eq_getElem?_getD, List.getD_eq_getElem?_getD, List.getElem?_append_left h]
theorem nds_last (D : List Nd) (x : Nd) : nds (D ++ [x]) D.length = dcs x := by
  unfold nds
  rw [List.getD_eq_getElem?_getD, List.getElem?_append_right (Nat.le_refl _), Nat.sub_self]
  rfl
structure TreeS (N : Nat) (w : World) (t : Nat) (nv ov : Value) (D : List Nd) (O : List Nat) : Prop where
  bT : Lp.Bk w t #[nv, ov] 42
  on : Own N w 29 10 nv D.length (nds D)
  oo : Own N w 3 1 ov O.length (lvs O)
  ap : Apart2 nv ov
theorem TreeS.keep {N : Nat} {w w' : World} {t : Nat} {nv ov : Value} {D : List Nd} {O : List Nat} (h : TreeS N w t nv ov D O) (hb : Below w.heap.size w w') : TreeS N w' t nv ov D O := ⟨h.bT.keep hb, h.on.keep hb, h.oo.keep hb, h.ap⟩

theorem made_ints (n : Nat) (w : World) (h : n ≤ 4194304) : (Instr.makeSlice 36 (.int .i64 (n : Int)) (.int .i64 (n : Int))).run Try.prog w = .ok (.slice (some ⟨w.heap.size, 0, none⟩) n n) (w.alloc (.cells (madeCells #[.int .i64 0] n) 3)) := by
  obtain ⟨i, hi, z0, z1, z2⟩ := info_int
  have := run_make (P := Try.prog) w 36 3 i (.int .i64 0) under_ints hi z0 .i64 .i64 (n : Int) (n : Int) (by omega) (Int.le_refl _) (by rw [z2]; omega) (by omega)
  rw [this, z1, Nat.mul_one]
  rfl
/-- A block of numbers, the first j of them told. -/
def Pt (w : World) (g n j : Nat) : Prop := ∃ vs : Array Value, Lp.Bk w g vs 3 ∧ vs.size = n ∧ ∀ i, i < j → vs[i]? = some (.int .i64 (i : Int))
theorem Pt.at' {w : World} {g n j i : Nat} (h : Pt w g n j) (hi : i < n) : ∃ u, w.cell? ⟨g, i, none⟩ = some u ∧ w.frozen? ⟨g, i, none⟩ = false := by
  obtain ⟨vs, hb, hs, _⟩ := h
  refine ⟨vs[i]'(by omega), ?_, hb.frz i⟩
  rw [hb.cell i, Array.getElem?_eq_getElem]
theorem Pt.set {w : World} {g n j : Nat} (h : Pt w g n j) (hj : j < n) : Pt (w.setCell ⟨g, j, none⟩ (.int .i64 (j : Int))) g n (j + 1) := by
  obtain ⟨vs, hb, hs, ht⟩ := h
  refine ⟨vs.setIfInBounds j (.int .i64 (j : Int)), hb.set j _, by simp [hs], fun i hi => ?_⟩
  by_cases e : j = i
  · subst e
    rw [Array.getElem?_setIfInBounds_self_of_lt (by omega)]
  · rw [Array.getElem?_setIfInBounds_ne e]
    exact ht i (by omega)
theorem Pt.sl {w : World} {g n : Nat} (h : Pt w g n n) : Sl w (some ⟨g, 0, none⟩) (List.range n).length 1 (lvs (List.range n)) := by
  obtain ⟨vs, hb, hs, ht⟩ := h
  refine .inr ⟨g, 0, rfl, hb.lt, fun i hi j hj => ?_⟩
  obtain rfl : j = 0 := by omega
  rw [List.length_range] at hi
  rw [show 0 + (i * 1 + 0) = i by omega, hb.cell i, ht i hi]
  unfold lvs
  rw [List.getD_eq_getElem?_getD, List.getElem?_range hi]
  rfl
set_option maxRecDepth 100000 in
set_option maxHeartbeats 1000000 in
theorem numbers_any (n cb cm : Nat) (ab am : Option Addr) (w : World) (hn : n ≤ 512) : Calls Try.prog 23 #[.agg #[.slice ab n cb, .slice am n cm]] w fun e w' => e = .returned (.slice (some ⟨w.heap.size + 1, 0, none⟩) (List.range n).length (List.range n).length) ∧ Sl w' (some ⟨w.heap.size + 1, 0, none⟩) (List.range n).length 1 (lvs (List.range n)) ∧ w.heap.size + 1 < w'.heap.size ∧ Cl w w' := by
  have HM : ∀ w, _ := fun w => made_ints n w (by omega)
  go_enter Try.func23, Try.ntmps23
  go_wp2_with fail
  have hI : Pt ((w.alloc (.cells #[.slice ab n cb, .slice am n cm] 58)).alloc (.cells (madeCells #[.int .i64 0] n) 3)) (w.heap.size + 1) n 0 := ⟨_, Lp.Bk.al1 _ _ _ _, by simp [madeCells], fun i hi => absurd hi (Nat.not_lt_zero i)⟩
  have HB : Cl w ((w.alloc (.cells #[.slice ab n cb, .slice am n cm] 58)).alloc (.cells (madeCells #[.int .i64 0] n) 3)) := ((Below.refl _ _).alloc (Nat.le_refl _) _).alloc (by simp) _
  go_loopg [11] n (fun k i wr => ∃ (j : Nat), k + j = n ∧ i = .int .i64 (j : Int) ∧ Pt wr (w.heap.size + 1) n j ∧ w.heap.size + 1 < wr.heap.size ∧ Cl w wr)
  case atStart => exact ⟨0, by omega, rfl, hI, by simp, HB⟩
  case round =>
    clear hI HB
    obtain ⟨g0, hg0⟩ : ∃ g0, g0 = gk := ⟨_, rfl⟩
    subst hg0
    obtain ⟨j, hk, rfl, hI, hlt, HB⟩ := hrel
    have HK := aside hk
    clear hk
    by_cases hj : j < n
    · have hd : ((j : Int) < (n : Int)) = True := eq_true (by omega)
      have hj5 : j < 512 := by omega
      obtain ⟨u, k0, z0⟩ := hI.at' hj
      have HI := hid hI
      have HBB := hid HB
      have HLT := aside hlt
      clear hI HB
      go_wp2_with fail
      go_roundg (g0 - 1)
      case measure => have := HK.out; omega
      case rel => exact ⟨j + 1, by have := HK.out; omega, by go_num, HI.out.set hj, by simp [World.setCell]; exact HLT.out, HBB.out.setCell (by show w.heap.size ≤ w.heap.size + 1; omega) _⟩
    · have hd : ((j : Int) < (n : Int)) = False := eq_false (by omega)
      have hjn : j = n := by have := HK.out; omega
      subst hjn
      go_wp2_with fail
      refine bodyPost_ret (v := .slice (some ⟨w.heap.size + 1, 0, none⟩) j j) (by simp [results, go_sem]) rfl ⟨by rw [List.length_range], hI.sl, hlt, HB⟩

end Go.Proofs.Ytijoaklknpkdoaa
