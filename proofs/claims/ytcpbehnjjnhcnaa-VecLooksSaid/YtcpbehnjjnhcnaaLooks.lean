/- VecLooks, whatever its input: whether numbers are finite, the part of any axis, and whether two vectors are the same, are what the document says; and the input reads as it did. No condition. -/
import Derived.Test.YtcpbehnjjnhcnaaVz
import Derived.Test.YtcpbehnjjnhcnaaVo
namespace Go.Proofs.Ytcpbehnjjnhcnaa
open Go.ChangeShapes Go.WideShapes Go.ChangeAt Go.RowKit Fl

theorem looks_walk (ax ay az bx bY bz : Nat) (i : Int) (hx : Wd ax) (hy : Wd ay) (hz : Wd az) (gx : Wd bx) (gy : Wd bY) (gz : Wd bz) (w : World) :
    Ret Try.prog 6 #[.agg #[.float .f64 ax, .float .f64 ay, .float .f64 az], .agg #[.float .f64 bx, .float .f64 bY, .float .f64 bz], .int .i64 i] w (fun v => v = .bool true) := by
  by_cases h0 : i = 0
  · subst h0; exact looks_x ax ay az bx bY bz hx hy hz gx gy gz w
  · by_cases h1 : i = 1
    · subst h1; exact looks_y ax ay az bx bY bz hx hy hz gx gy gz w
    · exact looks_z ax ay az bx bY bz i hx hy hz gx gy gz (by simpa using h0) (by simpa using h1) w

set_option maxRecDepth 100000 in
theorem looks_lifted (os : Os) (started : os.Started) (H : Type) (enc : TypeId × Value → H) :
    ReturnsInHanded {} Try.checked os 6 .any (Rows.vecLooksSpec.pre6 enc Try.prog Try.f6 Rows.vecLooksRow.domain false) (Rows.vecLooksSpec.post enc Try.prog Try.f6 false true false false) := by
  refine returnsInHanded_of_change (C := Try.checked) Try.own started (by kernel_rfl) Try.func6
    (ChangeSpec.witness6 (enc := enc) (C := Try.checked) false ⟨#[], #[.agg #[.float .f64 0, .float .f64 0, .float .f64 0], .agg #[.float .f64 0, .float .f64 0, .float .f64 0], .int .i64 0], []⟩ 8 (by kernel_rfl) (by kernel_rfl) (by kernel_rfl) (by kernel_rfl)) ?_
  intro W base args ds gs before hval0 hW _ _
  have hval : ∀ (j : Nat) t v, Try.f6.params[j]? = some t → args[j]? = some v → Value.okWide Try.prog W .any base t v := hval0
  have hW' := hW
  obtain ⟨p, q, hA0, hV, rfl, hfz, hnd⟩ := hW
  have hA : DataW.TrodAll enc Try.prog W 0 (fun _ => true) true Try.f6.params.toList args.toList ds p := hA0
  rw [Try.params6] at hA hval
  obtain ⟨v0, v1, v2, d0, d1, d2, p0, p1, p2, rfl, rfl, rfl, h0, h1, h2⟩ := trodAll_three hA
  obtain ⟨rfl, rfl⟩ := trodVars_none hV
  obtain ⟨ax, ay, az, rfl, rfl, rfl, wax, way, waz⟩ := open_vec (hval 0 24 v0 rfl rfl) h0
  obtain ⟨bx, bY, bz, rfl, rfl, rfl, wbx, wby, wbz⟩ := open_vec (hval 1 24 v1 rfl rfl) h1
  obtain ⟨i, rfl, rfl, rfl, wi⟩ := open_int Try.underlying3 (hval 2 3 v2 rfl rfl) h2
  clear hA0 hval0
  simp only [List.append_nil] at hW'
  refine Calls.mono (looks_walk ax ay az bx bY bz i (wd_of wax) (wd_of way) (wd_of waz) (wd_of wbx) (wd_of wby) (wd_of wbz) W) fun e W' ⟨v, he, hv, bel⟩ => ?_
  subst he; subst hv
  exact ⟨_, rfl, _, _, _, [], [], [], hW', trodAll_mk1 (shut_bool Try.underlying4 _), trodAll_mk3 (shut_vec wax way waz) (shut_vec wbx wby wbz) (shut_int Try.underlying3 wi), rfl, bel.frame _, fun h => by cases h⟩

theorem looks_holds : Rows.VecLooksSaid :=
  OpenClaim.holds_of_wide 6 Try.f6 rfl rfl rfl rfl rfl rfl rfl ⟨rfl, rfl, rfl, rfl, rfl⟩ rfl rfl rfl rfl rfl (by kernel_rfl) Try.func6 (by kernel_rfl)
    (of_decide_eq_true (by kernel_rfl)) (by unfold Func.isWrapper; rw [if_neg (of_decide_eq_false (by kernel_rfl))]; exact ⟨rfl, rfl⟩)
    (fun os started H enc _ => looks_lifted os started H enc)
#print axioms looks_holds
end Go.Proofs.Ytcpbehnjjnhcnaa
