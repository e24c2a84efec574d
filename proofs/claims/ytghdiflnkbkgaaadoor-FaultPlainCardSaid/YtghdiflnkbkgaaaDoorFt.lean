/- The law's chain: of any faults an error that wraps them one by one. -/
import Derived.Test.YtghdiflnkbkgaaaDoorFs
import Derived.Deep.QuietTactic
import Derived.BigQuiet
import Derived.WalkSmall
namespace Go.Proofs.YtghdiflnkbkgaaaDoor
open Go.RowKit

/-- Of the first k faults those whose code is not OK. -/
def its (C L : Nat → Int) : Nat → List (Int × Int)
  | 0 => []
  | k + 1 => if C k = 0 then its C L k else its C L k ++ [(C k, L k)]

def flat (xs : List (Int × Int)) : List Value := xs.flatMap fun p => [.int .i64 p.1, .int .i64 p.2]

theorem its_len (C L : Nat → Int) : ∀ k, (its C L k).length ≤ k := by
  intro k
  induction k with
  | zero => simp [its]
  | succ k ih => unfold its; split <;> first | omega | (simp; omega)

theorem its_zero {C L : Nat → Int} {k : Nat} (h : (C k == 0) = true) : its C L (k + 1) = its C L k := by simp at h; simp [its, h]
theorem its_more {C L : Nat → Int} {k : Nat} (h : (C k == 0) = false) : its C L (k + 1) = its C L k ++ [(C k, L k)] := by simp at h; simp [its, h]
theorem chn_more {C L : Nat → Int} {k : Nat} (h : (C k == 0) = false) : chn none (its C L (k + 1)).reverse = .iface 43 (.agg #[.int .i64 (C k), .int .i64 (L k), chn none (its C L k).reverse]) := by
  rw [its_more h]; simp [chn]
theorem flat_more {C L : Nat → Int} {k : Nat} (h : (C k == 0) = false) : flat (its C L (k + 1)) = flat (its C L k) ++ [.int .i64 (C k), .int .i64 (L k)] := by
  rw [its_more h]; simp [flat]

theorem owns_form {w : World} {base : Nat} {e : TypeId} {size : Nat} {v : Value} {n : Nat} {xs : List Value} (h : w.ownsRow base e size v n xs) : ∃ a c, v = .slice a n c := by
  rcases h.2 with ⟨rfl, rfl⟩ | ⟨g, cap, cur, rfl, _⟩ <;> exact ⟨_, _, rfl⟩

theorem owns_heap {w w' : World} {base : Nat} {e : TypeId} {size : Nat} {v : Value} {n : Nat} {xs : List Value} (h : w'.heap = w.heap) (ho : w.ownsRow base e size v n xs) : w'.ownsRow base e size v n xs := by
  unfold World.ownsRow at ho ⊢
  rw [h]; exact ho

theorem Tryd.info34 : (Tryd.prog.info? 34).map (fun i => (i.zero, i.size, i.bytes)) = some (some (.agg #[.int .i64 0, .int .i64 0]), 2, 16) := by kernel_rfl

set_option maxRecDepth 100000 in
set_option maxHeartbeats 1000000 in
theorem chain_law (b off len cap : Nat) (C L : Nat → Int) (w : World) (hlen : len ≤ maxLen) (hb : b < w.heap.size)
    (hC : ∀ i, i < len → w.cell? ⟨b, off + i * 2, none⟩ = some (.int .i64 (C i))) (hL : ∀ i, i < len → w.cell? ⟨b, off + i * 2 + 1, none⟩ = some (.int .i64 (L i))) :
    Calls Tryd.prog 6 #[.slice (some ⟨b, off, none⟩) len cap] w fun e w' => ∃ out, e = .returned (.tuple #[chn none (its C L (min len 40)).reverse, out]) ∧
      w'.ownsRow w.heap.size 34 2 out (its C L (min len 40)).length (flat (its C L (min len 40))) ∧ Below w.heap.size w w' := by
  obtain ⟨i0, hi, hz0, hz1, hz2⟩ := info_parts Tryd.info34
  unfold maxLen at hlen
  go_enter Tryd.func6, Tryd.ntmps6
  go_wp2
  go_loopw [4, 5, 6] (fun err out i wr => ∃ k : Nat, k ≤ len ∧ k ≤ 40 ∧ i = .int .i64 k ∧ err = chn none (its C L k).reverse ∧ wr.ownsRow w.heap.size 34 2 out (its C L k).length (flat (its C L k)) ∧ Below w.heap.size w wr) (fun _ _ i _ => 40 - (intOf i).toNat)
  case atStart => exact ⟨0, Nat.zero_le _, by omega, rfl, rfl, World.ownsRow_nil _ _ _ _, Below.refl _ _⟩
  case round =>
    obtain ⟨k, hk, hk40, rfl, rfl, hown, hbel⟩ := hrel
    obtain ⟨oa, oc, rfl⟩ := owns_form hown
    have HO : Hid (wr.ownsRow w.heap.size 34 2 (.slice oa (its C L k).length oc) (its C L k).length (flat (its C L k))) := hown
    have HB : Hid (Below w.heap.size w wr) := hbel
    have hn := its_len C L k
    clear hown hbel
    by_cases hlt : k < len
    · by_cases h40 : k < 40
      · have hc0 : wr.cell? ⟨b, off + k * 2, none⟩ = some (.int .i64 (C k)) := (HB.out.cell (p := ⟨b, off + k * 2, none⟩) hb).trans (hC k hlt)
        have hc1 : wr.cell? ⟨b, off + k * 2 + 1, none⟩ = some (.int .i64 (L k)) := (HB.out.cell (p := ⟨b, off + k * 2 + 1, none⟩) hb).trans (hL k hlt)
        cases hz : (C k == 0)
        · have hkl : (k : Int) < (len : Int) := by omega
          generalize hnE : (its C L k).length = n at HO hn ⊢
          generalize hE : chn none (its C L k).reverse = E
          have HN : Hid _ := hnE
          have HE : Hid _ := hE
          have hcase : (n = 0 ∧ E = .nilIface) ∨ (0 < n ∧ ∃ t x, E = .iface t x) := by
            subst hnE; subst hE
            cases hh : its C L k with
            | nil => exact .inl ⟨rfl, rfl⟩
            | cons p r =>
              refine .inr ⟨by simp, ?_⟩
              rcases chn_iface none (p :: r).reverse with h | h
              · exfalso
                have : (p :: r).reverse ≠ [] := by simp
                cases hr : (p :: r).reverse with
                | nil => exact this hr
                | cons q s => rw [hr] at h; obtain ⟨_, _⟩ := q; simp [chn] at h
              · exact h
          clear hnE hE
          rcases hcase with ⟨rfl, rfl⟩ | ⟨hpos, t, x, rfl⟩
          · go_wp2_with fail
            go_quiet ((go_at_call 17; exact Calls.quiet_of_same (new_any (C k) (L k) hz _)))
            go_wp2_with (first
              | (at_builtin; refine wpList_append_own _ rfl _ _ 22 rfl w.heap.size 34 i0 (.agg #[.int .i64 0, .int .i64 0]) 2 16 Tryd.underlying22 hi hz0 hz1 hz2 rfl (by decide) _ 0 (flat (its C L k)) rfl ?c0 ⟨wr.heap.size, 0, none⟩ 1 1 [.int .i64 (C k), .int .i64 (L k)] rfl rfl ?c1 ?c2 ?c3 ?c4 ?c5 ?_)
              | fail)
            case c0 => exact (owns_heap (w := wr) (by simp) HO.out).alloc _
            case c1 =>
              intro j u hj
              match j, hj with
              | 0, hj => simp at hj; subst hj; exact cell_new (by simp) rfl
              | 1, hj => simp at hj; subst hj; exact cell_new (by simp) rfl
            case c2 => intro u hu; simp at hu; rcases hu with rfl | rfl <;> rfl
            case c3 => unfold maxLen; omega
            case c4 => omega
            case c5 => have := HB.out.size; simp; omega
            intro v' w2 hown' hgrow _
            have hB2 : Below w.heap.size w w2 := ((below_drewN HB.out _).alloc (by have := HB.out.size; simp; omega) _).grown hgrow (by have := HB.out.size; simp; omega) (fun g hg => (World.ownsRow.lt HO.out g hg).1)
            have HO2 : Hid _ := hown'
            have HB2 : Hid _ := hB2
            clear hown' hgrow hB2
            go_wp2
            go_roundw
            case rel => exact ⟨k + 1, by omega, by omega, by go_num, by rw [chn_more hz, HE.out], by rw [flat_more hz, its_more hz, List.length_append, HN.out]; exact HO2.out, HB2.out⟩
            case measure => simp [intOf]; omega
          · go_wp2_with fail
            go_quiet ((go_at_call 16; exact Calls.quiet_of_same (wrap_any t x (C k) (L k) hz _)))
            go_wp2_with (first
              | (at_builtin; refine wpList_append_own _ rfl _ _ 22 rfl w.heap.size 34 i0 (.agg #[.int .i64 0, .int .i64 0]) 2 16 Tryd.underlying22 hi hz0 hz1 hz2 rfl (by decide) _ n (flat (its C L k)) rfl ?c0 ⟨wr.heap.size, 0, none⟩ 1 1 [.int .i64 (C k), .int .i64 (L k)] rfl rfl ?c1 ?c2 ?c3 ?c4 ?c5 ?_)
              | fail)
            case c0 => exact (owns_heap (w := wr) (by simp) HO.out).alloc _
            case c1 =>
              intro j u hj
              match j, hj with
              | 0, hj => simp at hj; subst hj; exact cell_new (by simp) rfl
              | 1, hj => simp at hj; subst hj; exact cell_new (by simp) rfl
            case c2 => intro u hu; simp at hu; rcases hu with rfl | rfl <;> rfl
            case c3 => unfold maxLen; omega
            case c4 => omega
            case c5 => have := HB.out.size; simp; omega
            intro v' w2 hown' hgrow _
            have hB2 : Below w.heap.size w w2 := ((below_drewN HB.out _).alloc (by have := HB.out.size; simp; omega) _).grown hgrow (by have := HB.out.size; simp; omega) (fun g hg => (World.ownsRow.lt HO.out g hg).1)
            have HO2 : Hid _ := hown'
            have HB2 : Hid _ := hB2
            clear hown' hgrow hB2
            go_wp2
            go_roundw
            case rel => exact ⟨k + 1, by omega, by omega, by go_num, by rw [chn_more hz, HE.out], by rw [flat_more hz, its_more hz, List.length_append, HN.out]; exact HO2.out, HB2.out⟩
            case measure => simp [intOf]; omega
        · go_wp2
          go_roundw
          case rel => exact ⟨k + 1, by omega, by omega, by go_num, by rw [its_zero hz], by rw [its_zero hz]; exact HO.out, HB.out⟩
          case measure => simp [intOf]; omega
      · go_wp2
        go_ret2
        have : min len 40 = k := by omega
        rw [this]
        exact ⟨_, rfl, HO.out, HB.out⟩
    · go_wp2
      go_ret2
      have : min len 40 = k := by omega
      rw [this]
      exact ⟨_, rfl, HO.out, HB.out⟩
end Go.Proofs.YtghdiflnkbkgaaaDoor
