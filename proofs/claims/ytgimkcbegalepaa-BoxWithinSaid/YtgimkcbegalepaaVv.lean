/- Products the other way round; the reference says yes. -/
import Derived.Test.YtgimkcbegalepaaVr
import Derived.Test.YtgimkcbegalepaaVb
namespace Go.Proofs.Ytgimkcbegalepaa
open Go.RowKit Fl

theorem product_comm (d e : Ieee.Datum) : d.product e = e.product d := by
  cases d <;> cases e <;> simp [Ieee.Datum.product, Nat.mul_comm, Int.add_comm, Bool.xor_comm]
theorem fmul_comm (x y : Nat) : fmul x y = fmul y x := by
  unfold fmul Ieee.Format.mul
  rw [product_comm]

theorem dot_comm (ax ay az bx bY bz : Nat) : dotF ax ay az bx bY bz = dotF bx bY bz ax ay az := by
  unfold dotF
  rw [fmul_comm ax, fmul_comm ay, fmul_comm az]
theorem rsame_true {x y : Nat} (h : Sm x y) (w : World) : Ret Try.prog 18 #[.float .f64 x, .float .f64 y] w (fun v => v = .bool true) :=
  (rsame_any x y w).mono fun _ _ ⟨he, hw⟩ => ⟨_, he, by rw [sameB_of h], by rw [hw]; exact Below.refl _ _⟩
theorem ris_true {ax ay az bx bY bz : Nat} (hx : Sm ax bx) (hy : Sm ay bY) (hz : Sm az bz) (w : World) : Ret Try.prog 23 #[.agg #[.float .f64 ax, .float .f64 ay, .float .f64 az], .agg #[.float .f64 bx, .float .f64 bY, .float .f64 bz]] w (fun v => v = .bool true) :=
  (ris_any ax ay az bx bY bz w).mono fun v h => by rw [h, sameB_of hx, sameB_of hy, sameB_of hz]; rfl

end Go.Proofs.Ytgimkcbegalepaa
