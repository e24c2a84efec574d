/- LambertTells, whatever its input: how much of what comes in goes out is, colour by colour and up to which NaN a NaN is, what the document says, and how probable any direction is, is the document's number, not below 0; and the input reads as it did. No condition. -/
import Derived.Test.YtagehemimlakpaaG10
namespace Go.Proofs.Ytagehemimlakpaa
open Go.ChangeShapes Go.WideShapes Go.ChangeAt Go.RowKit Fl

set_option maxRecDepth 100000 in
theorem ltells_lifted (os : Os) (started : os.Started) (H : Type) (enc : TypeId × Value → H) :
    ReturnsInHanded {} Try.checked os 3 .any (Rows.lambertTellsSpec.pre6 enc Try.prog Try.f3 Rows.lambertTellsRow.domain false) (Rows.lambertTellsSpec.post enc Try.prog Try.f3 false true false false) := by
  refine returnsInHanded_of_change (C := Try.checked) Try.own started (by kernel_rfl) Try.func3
    (ChangeSpec.witness6 (enc := enc) (C := Try.checked) false ⟨#[], #[.agg #[.float .f64 0, .float .f64 0, .float .f64 0], .agg #[.float .f64 0, .float .f64 0, .float .f64 0], .agg #[.float .f64 0, .float .f64 0, .float .f64 0]], []⟩ 8 (by kernel_rfl) (by kernel_rfl) (by kernel_rfl) (by kernel_rfl)) ?_
  intro W base args ds gs before hval0 hW _ _
  have hval : ∀ (j : Nat) t v, Try.f3.params[j]? = some t → args[j]? = some v → Value.okWide Try.prog W .any base t v := hval0
  have hW' := hW
  obtain ⟨p, q, hA0, hV, rfl, hfz, hnd⟩ := hW
  have hA : DataW.TrodAll enc Try.prog W 0 (fun _ => true) true Try.f3.params.toList args.toList ds p := hA0
  rw [Try.params3] at hA hval
  obtain ⟨v0, v1, v2, d0, d1, d2, p0, p1, p2, rfl, rfl, rfl, h0, h1, h2⟩ := trodAll_three hA
  obtain ⟨rfl, rfl⟩ := trodVars_none hV
  obtain ⟨a0, a1, a2, rfl, rfl, rfl, wax, way, waz⟩ := open_rgb (hval 0 24 v0 rfl rfl) h0
  obtain ⟨b0, b1, b2, rfl, rfl, rfl, wbx, wby, wbz⟩ := open_vec (hval 1 26 v1 rfl rfl) h1
  obtain ⟨c0, c1, c2, rfl, rfl, rfl, wcx, wcy, wcz⟩ := open_vec (hval 2 26 v2 rfl rfl) h2
  clear hA0 hval0
  simp only [List.append_nil] at hW'
  refine Calls.mono (tells_walk a0 a1 a2 b0 b1 b2 c0 c1 c2 W) fun e W' ⟨v, he, hv, bel⟩ => ?_
  subst he; subst hv
  exact ⟨_, rfl, _, _, _, [], [], [], hW', trodAll_mk1 (shut_bool Try.underlying4 _), trodAll_mk3 (shut_rgb wax way waz) (shut_vec wbx wby wbz) (shut_vec wcx wcy wcz), rfl, bel.frame _, fun h => by cases h⟩

theorem ltells_holds : Rows.LambertTellsSaid :=
  OpenClaim.holds_of_wide 3 Try.f3 rfl rfl rfl rfl rfl rfl rfl ⟨rfl, rfl, rfl, rfl, rfl⟩ rfl rfl rfl rfl rfl (by kernel_rfl) Try.func3 (by kernel_rfl)
    (of_decide_eq_true (by kernel_rfl)) (by unfold Func.isWrapper; rw [if_neg (of_decide_eq_false (by kernel_rfl))]; exact ⟨rfl, rfl⟩)
    (fun os started H enc _ => ltells_lifted os started H enc)
#print axioms ltells_holds
end Go.Proofs.Ytagehemimlakpaa
