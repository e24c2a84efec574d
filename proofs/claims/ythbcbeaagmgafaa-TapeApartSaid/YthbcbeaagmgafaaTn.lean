/- Package tape: the walk of TapeApart. -/
import Derived.Test.YthbcbeaagmgafaaRows
import Derived.Test.YthbcbeaagmgafaaTla
import Derived.Test.YthbcbeaagmgafaaTlb
import Derived.Test.YthbcbeaagmgafaaTlc
import Derived.Test.YthbcbeaagmgafaaTld
import Derived.Test.YthbcbeaagmgafaaTm
namespace Go.Proofs.Ythbcbeaagmgafaa
open Go.RowKit Fl

theorem wrap_in (n : Int) (h : -9223372036854775808 ≤ n ∧ n ≤ 9223372036854775807) : IntKind.i64.wrap n = n := by rw [IntKind.wrap_i64]; omega

theorem apart_any (x h s d a b c k a2 b2 c2 k2 : Int) (w : World) : Ret Try.prog 6 #[.agg #[.int .i64 x, .int .i64 h, .int .i64 s, .int .i64 d, .int .i64 a, .int .i64 b, .int .i64 c, .int .i64 k, .int .i64 a2, .int .i64 b2, .int .i64 c2, .int .i64 k2]] w (fun v => v = .bool true) := by
  have HM : Hid _ := rneed_any x h s d
  unfold outN at HM
  have HA : Hid _ := slot_any x s d a b c k
  by_cases hp : slotP x s d a b c k
  · have HR : Hid _ := fun w => ret_same (rslots_any d w)
    have HS2 := slot_any x s d a2 b2 c2 k2
    have hA : slotF x s d a b c k = ((b * x + a) * s + c) * slotsF d + k := if_pos hp
    rw [hA] at HA
    have hbd := slot_bounds hp
    have hsb := slots_bound d
    obtain ⟨⟨b0, b1⟩, ⟨b2', b3⟩, b4, b5⟩ := hbd
    obtain ⟨⟨d0, d1⟩, ⟨⟨x0, x1⟩, ⟨a0, a1⟩, y0, y1⟩, ⟨⟨s0, s1⟩, c0, c1⟩, k0, k1⟩ := hp
    have hn := need_ok (x := x) (y := h) (s := s) (d := d)
    generalize (needF x h s d).1 = n at *
    generalize (needF x h s d).2 = e at *
    have hs2 : slotF x s d a2 b2 c2 k2 = if slotP x s d a2 b2 c2 k2 then ((b2 * x + a2) * s + c2) * slotsF d + k2 else -1 := rfl
    refine apart_go x h s d a b c k a2 b2 c2 k2 n e (slotsF d) (b * x) (b * x + a) ((b * x + a) * s) ((b * x + a) * s + c) (((b * x + a) * s + c) * slotsF d) (((b * x + a) * s + c) * slotsF d + k) w (eq_false (by omega)) (eq_false (by omega)) (eq_false (by omega)) (eq_false (by omega)) (eq_false (by omega)) (eq_false (by omega)) (eq_false (by omega)) (eq_false (by omega)) (eq_false (by omega)) (eq_false (by omega)) (eq_false (by omega)) (eq_false (by omega)) (eq_false (by omega)) (eq_false (by omega)) HM HA HR
      (wrap_in _ (by omega)) (wrap_in _ (by omega)) (wrap_in _ (by omega)) (wrap_in _ (by omega)) (wrap_in _ (by omega)) (wrap_in _ (by omega)) ?_ ?_
    · intro he ha hb hc hk
      rw [(hn he).2]
      exact place_lt x0 s0 hsb.1 ha hb hc hk
    · intro he ha hb hc hk ga ga' gb gb' gc gc' gk gk'
      obtain ⟨⟨-, ⟨-, hy⟩, -⟩, -⟩ := hn he
      by_cases h516 : k2 ≤ 516
      · have hp2 : slotP x s d a2 b2 c2 k2 := ⟨⟨d0, d1⟩, ⟨⟨x0, x1⟩, ⟨ga, by omega⟩, gb, by omega⟩, ⟨⟨s0, s1⟩, gc, by omega⟩, gk, h516⟩
        rw [if_pos hp2] at hs2
        rw [hs2] at HS2
        refine ⟨_, HS2, fun hh => place_inj a0 ha ga ga' c0 hc gc gc' k0 hk gk gk' hh, ?_⟩
        rintro ⟨rfl, rfl, rfl, rfl⟩
        rfl
      · rw [if_neg fun hh => h516 hh.2.2.2.2] at hs2
        rw [hs2] at HS2
        refine ⟨_, HS2, fun hh => ?_, fun hh => ?_⟩
        · omega
        · omega
  · rw [show slotF x s d a b c k = -1 from if_neg hp] at HA
    have hc := slot_cases hp
    rcases hc with h0 | ⟨h0, h1⟩ | ⟨h0, h1, h2⟩ | ⟨h0, h1, h2, h3⟩ | ⟨h0, h1, h2, h3, h4⟩ | ⟨h0, h1, h2, h3, h4, h5⟩ | ⟨h0, h1, h2, h3, h4, h5, h6⟩ | ⟨h0, h1, h2, h3, h4, h5, h6, h7⟩ | ⟨h0, h1, h2, h3, h4, h5, h6, h7, h8⟩ | ⟨h0, h1, h2, h3, h4, h5, h6, h7, h8, h9⟩ | ⟨h0, h1, h2, h3, h4, h5, h6, h7, h8, h9, h10⟩ | ⟨h0, h1, h2, h3, h4, h5, h6, h7, h8, h9, h10, h11⟩ | ⟨h0, h1, h2, h3, h4, h5, h6, h7, h8, h9, h10, h11, h12⟩ | ⟨h0, h1, h2, h3, h4, h5, h6, h7, h8, h9, h10, h11, h12, h13⟩
    · exact apart_off0 x h s d a b c k a2 b2 c2 k2 _ _ w (eq_true h0) HM HA
    · exact apart_off1 x h s d a b c k a2 b2 c2 k2 _ _ w (eq_false (by omega)) (eq_true h1) HM HA
    · exact apart_off2 x h s d a b c k a2 b2 c2 k2 _ _ w (eq_false (by omega)) (eq_false (by omega)) (eq_true h2) HM HA
    · exact apart_off3 x h s d a b c k a2 b2 c2 k2 _ _ w (eq_false (by omega)) (eq_false (by omega)) (eq_false (by omega)) (eq_true h3) HM HA
    · exact apart_off4 x h s d a b c k a2 b2 c2 k2 _ _ w (eq_false (by omega)) (eq_false (by omega)) (eq_false (by omega)) (eq_false (by omega)) (eq_true h4) HM HA
    · exact apart_off5 x h s d a b c k a2 b2 c2 k2 _ _ w (eq_false (by omega)) (eq_false (by omega)) (eq_false (by omega)) (eq_false (by omega)) (eq_false (by omega)) (eq_true h5) HM HA
    · exact apart_off6 x h s d a b c k a2 b2 c2 k2 _ _ w (eq_false (by omega)) (eq_false (by omega)) (eq_false (by omega)) (eq_false (by omega)) (eq_false (by omega)) (eq_false (by omega)) (eq_true h6) HM HA
    · exact apart_off7 x h s d a b c k a2 b2 c2 k2 _ _ w (eq_false (by omega)) (eq_false (by omega)) (eq_false (by omega)) (eq_false (by omega)) (eq_false (by omega)) (eq_false (by omega)) (eq_false (by omega)) (eq_true h7) HM HA
    · exact apart_off8 x h s d a b c k a2 b2 c2 k2 _ _ w (eq_false (by omega)) (eq_false (by omega)) (eq_false (by omega)) (eq_false (by omega)) (eq_false (by omega)) (eq_false (by omega)) (eq_false (by omega)) (eq_false (by omega)) (eq_true h8) HM HA
    · exact apart_off9 x h s d a b c k a2 b2 c2 k2 _ _ w (eq_false (by omega)) (eq_false (by omega)) (eq_false (by omega)) (eq_false (by omega)) (eq_false (by omega)) (eq_false (by omega)) (eq_false (by omega)) (eq_false (by omega)) (eq_false (by omega)) (eq_true h9) HM HA
    · exact apart_off10 x h s d a b c k a2 b2 c2 k2 _ _ w (eq_false (by omega)) (eq_false (by omega)) (eq_false (by omega)) (eq_false (by omega)) (eq_false (by omega)) (eq_false (by omega)) (eq_false (by omega)) (eq_false (by omega)) (eq_false (by omega)) (eq_false (by omega)) (eq_true h10) HM HA
    · exact apart_off11 x h s d a b c k a2 b2 c2 k2 _ _ w (eq_false (by omega)) (eq_false (by omega)) (eq_false (by omega)) (eq_false (by omega)) (eq_false (by omega)) (eq_false (by omega)) (eq_false (by omega)) (eq_false (by omega)) (eq_false (by omega)) (eq_false (by omega)) (eq_false (by omega)) (eq_true h11) HM HA
    · exact apart_off12 x h s d a b c k a2 b2 c2 k2 _ _ w (eq_false (by omega)) (eq_false (by omega)) (eq_false (by omega)) (eq_false (by omega)) (eq_false (by omega)) (eq_false (by omega)) (eq_false (by omega)) (eq_false (by omega)) (eq_false (by omega)) (eq_false (by omega)) (eq_false (by omega)) (eq_false (by omega)) (eq_true h12) HM HA
    · exact apart_off13 x h s d a b c k a2 b2 c2 k2 _ _ w (eq_false (by omega)) (eq_false (by omega)) (eq_false (by omega)) (eq_false (by omega)) (eq_false (by omega)) (eq_false (by omega)) (eq_false (by omega)) (eq_false (by omega)) (eq_false (by omega)) (eq_false (by omega)) (eq_false (by omega)) (eq_false (by omega)) (eq_false (by omega)) (eq_true h13) HM HA
end Go.Proofs.Ythbcbeaagmgafaa
