/- BvhBuilds, whatever its input: the tree of any triangles is the one that the document tells, node by node, or there is none and the error is the one that it tells; and the input reads as it did. No condition. -/
import Derived.Test.YtijoaklknpkdoaaGreatG20
namespace Go.Proofs.YtijoaklknpkdoaaGreat
open Go.ChangeShapes Go.WideShapes Go.ChangeAt Go.RowKit Fl Lm

def zeroU : Tr := ⟨0, 0, 0, 0, 0, 0, 0, 0, 0⟩
theorem zeroU_mo : zeroU.Mo := Tr.may (by decide +kernel)
/-- The first m triangles, and none behind them. -/
def firstU (T : Nat → Tr) (m : Nat) (i : Nat) : Tr := if i < m then T i else zeroU
theorem firstU_mo {T : Nat → Tr} {m : Nat} (h : ∀ i, i < m → (T i).mayB = true) (i : Nat) : (firstU T m i).Mo := by
  unfold firstU
  split
  · rename_i hi; exact Tr.may (h i hi)
  · exact zeroU_mo
theorem Sl.trisU {w : World} {ao : Option Addr} {m : Nat} {T : Nat → Tr} (h : Sl w ao m 9 fun i => tcs (T i)) : Sl w ao m 9 fun i => tcs (firstU T m i) := by
  rcases h with h | ⟨g, o, e, h⟩
  · exact .inl h
  · exact .inr ⟨g, o, e, h.congr fun i hi => by unfold firstU; rw [if_pos hi]⟩

theorem builds_any (T : Nat → Tr) (sur : Bool) (n cz : Nat) (ao : Option Addr) (w : World) (hL : Sl w ao n 9 fun i => tcs (T i)) : Ret Tryz.prog 3 #[.slice ao n cz, .bool sur] w (fun v => v = .bool true) := by
  by_cases h5 : 512 < n
  · exact builds_big sur n cz ao w h5
  · by_cases hb : ∃ i, i < n ∧ (T i).mayB = false
    · exact builds_bad T sur n cz ao w hL (by omega) hb
    · have hm : ∀ i, i < n → (T i).mayB = true := fun i hi => by
        cases h : (T i).mayB with
        | true => rfl
        | false => exact absurd ⟨i, hi, h⟩ hb
      have hm2 : ∀ i, i < n → (firstU T n i).mayB = true := fun i hi => by unfold firstU; rw [if_pos hi]; exact hm i hi
      by_cases h4 : 40 < n
      · exact builds_mid (firstU T n) (firstU_mo hm) sur n cz ao w hL.trisU (by omega) h4 hm2
      · exact builds_few (firstU T n) (firstU_mo hm) sur n cz ao w hL.trisU (by omega) hm2

set_option maxRecDepth 100000 in
theorem builds_lifted (os : Os) (started : os.Started) (H : Type) (enc : TypeId × Value → H) :
    ReturnsInHanded {} Tryz.checked os 3 .any (Rows.bvhBuildsSpec.pre6 enc Tryz.prog Tryz.f3 Rows.bvhBuildsRow.domain false) (Rows.bvhBuildsSpec.post enc Tryz.prog Tryz.f3 false true false false) := by
  refine returnsInHanded_of_change (C := Tryz.checked) Tryz.own started (by kernel_rfl) Tryz.func3
    (ChangeSpec.witness6 (enc := enc) (C := Tryz.checked) false ⟨#[], #[.slice none 0 0, .bool false], []⟩ 8 (by kernel_rfl) (by kernel_rfl) (by kernel_rfl) (by kernel_rfl)) ?_
  intro W base args ds gs before hval0 hW _ _
  have hval : ∀ (j : Nat) t v, Tryz.f3.params[j]? = some t → args[j]? = some v → Value.okWide Tryz.prog W .any base t v := hval0
  have hW' := hW
  obtain ⟨p, q, hA0, hV, rfl, hfz, hnd⟩ := hW
  have hA : DataW.TrodAll enc Tryz.prog W 0 (fun _ => true) true Tryz.f3.params.toList args.toList ds p := hA0
  rw [Tryz.params3] at hA hval
  obtain ⟨v0, v1, d0, d1, p0, p1, rfl, rfl, rfl, h0, h1⟩ := trodAll_two hA
  obtain ⟨rfl, rfl⟩ := trodVars_none hV
  have hv0 := okWide_slice Tryz.underlying22 (hval 0 22 v0 rfl rfl)
  have lt0 : ∀ x ∈ p0, x.block < W.heap.size := by obtain ⟨m, hm⟩ := h0; exact DataW.trod_lt m _ _ _ hm
  obtain ⟨n, T, az, cz, rfl, hn, hz, _⟩ := came_tris hv0 h0
  obtain ⟨i, rfl, rfl, rfl⟩ := open_bool Tryz.underlying4 (hval 1 4 v1 rfl rfl) h1
  clear hA0 hval0
  simp only [List.append_nil] at hW'
  refine Calls.mono (builds_any T i n cz az W hz) fun e W' ⟨v, he, hv, bel⟩ => ?_
  subst he; subst hv
  exact ⟨_, rfl, _, _, _, [], _, [], hW', trodAll_mk1 (shut_bool Tryz.underlying4 _), trodAll_mk2 (Below.trod Tryz.laidOut (by kernel_rfl) (of_decide_eq_true (by kernel_rfl)) h0 bel lt0) (shut_bool Tryz.underlying4 _), rfl, bel.frame _, fun h => by cases h⟩

theorem builds_holds : Rows.BvhBuildsSaid :=
  OpenClaim.holds_of_wide 3 Tryz.f3 rfl rfl rfl rfl rfl rfl rfl ⟨rfl, rfl, rfl, rfl, rfl⟩ rfl rfl rfl rfl rfl (by kernel_rfl) Tryz.func3 (by kernel_rfl)
    (of_decide_eq_true (by kernel_rfl)) (by unfold Func.isWrapper; rw [if_neg (of_decide_eq_false (by kernel_rfl))]; exact ⟨rfl, rfl⟩)
    (fun os started H enc _ => builds_lifted os started H enc)
#print axioms builds_holds
end Go.Proofs.YtijoaklknpkdoaaGreat
