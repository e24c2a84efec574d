/- Package tape: places of slots, apart; the walk of TapeApart where there is none. -/
import Derived.Test.YthbcbeaagmgafaaRows
import Derived.Test.YthbcbeaagmgafaaTj
namespace Go.Proofs.Ythbcbeaagmgafaa
open Go.RowKit Fl

theorem mix_lt {q Q r R : Int} (hq : q < Q) (hr : r < R) (h0 : 0 ≤ R) : q * R + r < Q * R := by
  have h1 : (q + 1) * R ≤ Q * R := Int.mul_le_mul_of_nonneg_right (by omega) h0
  rw [Int.add_mul, Int.one_mul] at h1
  omega
theorem mix_inj {q q' r r' R : Int} (h0 : 0 ≤ r) (h1 : r < R) (h2 : 0 ≤ r') (h3 : r' < R) (h : q * R + r = q' * R + r') : q = q' ∧ r = r' := by
  have hR : 0 ≤ R := by omega
  rcases Int.lt_trichotomy q q' with k | k | k
  · have h4 : (q + 1) * R ≤ q' * R := Int.mul_le_mul_of_nonneg_right (by omega) hR
    rw [Int.add_mul, Int.one_mul] at h4
    omega
  · subst k
    exact ⟨rfl, by omega⟩
  · have h4 : (q' + 1) * R ≤ q * R := Int.mul_le_mul_of_nonneg_right (by omega) hR
    rw [Int.add_mul, Int.one_mul] at h4
    omega
theorem need_ok {x y s d : Int} (h : (needF x y s d).2 = 0) : confP x y s d ∧ (needF x y s d).1 = x * y * s * slotsF d := by
  unfold needF at *
  split at h
  · rename_i hc
    rw [if_pos hc]
    split at h
    · cases h
    · rename_i h1
      rw [if_neg h1]
      split at h
      · cases h
      · rename_i h2
        rw [if_neg h2]
        exact ⟨hc, rfl⟩
  · cases h
/-- A slot's place is below how many are needed. -/
theorem place_lt {x h s l a b c k : Int} (hx : 0 ≤ x) (hs : 0 ≤ s) (hl : 0 ≤ l) (ha : a < x) (hb : b < h) (hc : c < s) (hk : k < l) : ((b * x + a) * s + c) * l + k < x * h * s * l := by
  have h1 : b * x + a < h * x := mix_lt hb ha hx
  have h2 := mix_lt h1 hc hs
  have h3 := mix_lt h2 hk hl
  rw [Int.mul_comm h x] at h3
  exact h3
/-- Different slots have different places. -/
theorem place_inj {x s l a b c k a2 b2 c2 k2 : Int} (h0 : 0 ≤ a) (ha : a < x) (h1 : 0 ≤ a2) (ha2 : a2 < x) (h2 : 0 ≤ c) (hc : c < s) (h3 : 0 ≤ c2) (hc2 : c2 < s) (h4 : 0 ≤ k) (hk : k < l) (h5 : 0 ≤ k2) (hk2 : k2 < l)
    (h : ((b * x + a) * s + c) * l + k = ((b2 * x + a2) * s + c2) * l + k2) : a = a2 ∧ b = b2 ∧ c = c2 ∧ k = k2 := by
  obtain ⟨e1, e2⟩ := mix_inj h4 hk h5 hk2 h
  obtain ⟨e3, e4⟩ := mix_inj h2 hc h3 hc2 e1
  obtain ⟨e5, e6⟩ := mix_inj h0 ha h1 ha2 e3
  exact ⟨e6, e5, e4, e2⟩
theorem slot_cases {x s d a b c k : Int} (h : ¬slotP x s d a b c k) : (a < 0) ∨ (0 ≤ a ∧ b < 0) ∨ (0 ≤ a ∧ 0 ≤ b ∧ c < 0) ∨ (0 ≤ a ∧ 0 ≤ b ∧ 0 ≤ c ∧ k < 0) ∨ (0 ≤ a ∧ 0 ≤ b ∧ 0 ≤ c ∧ 0 ≤ k ∧ 8192 < a) ∨ (0 ≤ a ∧ 0 ≤ b ∧ 0 ≤ c ∧ 0 ≤ k ∧ a ≤ 8192 ∧ 8192 < b) ∨ (0 ≤ a ∧ 0 ≤ b ∧ 0 ≤ c ∧ 0 ≤ k ∧ a ≤ 8192 ∧ b ≤ 8192 ∧ 65536 < c) ∨ (0 ≤ a ∧ 0 ≤ b ∧ 0 ≤ c ∧ 0 ≤ k ∧ a ≤ 8192 ∧ b ≤ 8192 ∧ c ≤ 65536 ∧ 516 < k) ∨ (0 ≤ a ∧ 0 ≤ b ∧ 0 ≤ c ∧ 0 ≤ k ∧ a ≤ 8192 ∧ b ≤ 8192 ∧ c ≤ 65536 ∧ k ≤ 516 ∧ x < 0) ∨ (0 ≤ a ∧ 0 ≤ b ∧ 0 ≤ c ∧ 0 ≤ k ∧ a ≤ 8192 ∧ b ≤ 8192 ∧ c ≤ 65536 ∧ k ≤ 516 ∧ 0 ≤ x ∧ 8192 < x) ∨ (0 ≤ a ∧ 0 ≤ b ∧ 0 ≤ c ∧ 0 ≤ k ∧ a ≤ 8192 ∧ b ≤ 8192 ∧ c ≤ 65536 ∧ k ≤ 516 ∧ 0 ≤ x ∧ x ≤ 8192 ∧ s < 0) ∨ (0 ≤ a ∧ 0 ≤ b ∧ 0 ≤ c ∧ 0 ≤ k ∧ a ≤ 8192 ∧ b ≤ 8192 ∧ c ≤ 65536 ∧ k ≤ 516 ∧ 0 ≤ x ∧ x ≤ 8192 ∧ 0 ≤ s ∧ 65536 < s) ∨ (0 ≤ a ∧ 0 ≤ b ∧ 0 ≤ c ∧ 0 ≤ k ∧ a ≤ 8192 ∧ b ≤ 8192 ∧ c ≤ 65536 ∧ k ≤ 516 ∧ 0 ≤ x ∧ x ≤ 8192 ∧ 0 ≤ s ∧ s ≤ 65536 ∧ d < 0) ∨ (0 ≤ a ∧ 0 ≤ b ∧ 0 ≤ c ∧ 0 ≤ k ∧ a ≤ 8192 ∧ b ≤ 8192 ∧ c ≤ 65536 ∧ k ≤ 516 ∧ 0 ≤ x ∧ x ≤ 8192 ∧ 0 ≤ s ∧ s ≤ 65536 ∧ 0 ≤ d ∧ 64 < d) := by
  by_cases g0 : a < 0
  · exact .inl g0
  have f0 : 0 ≤ a := by omega
  by_cases g1 : b < 0
  · exact .inr (.inl ⟨f0, g1⟩)
  have f1 : 0 ≤ b := by omega
  by_cases g2 : c < 0
  · exact .inr (.inr (.inl ⟨f0, f1, g2⟩))
  have f2 : 0 ≤ c := by omega
  by_cases g3 : k < 0
  · exact .inr (.inr (.inr (.inl ⟨f0, f1, f2, g3⟩)))
  have f3 : 0 ≤ k := by omega
  by_cases g4 : 8192 < a
  · exact .inr (.inr (.inr (.inr (.inl ⟨f0, f1, f2, f3, g4⟩))))
  have f4 : a ≤ 8192 := by omega
  by_cases g5 : 8192 < b
  · exact .inr (.inr (.inr (.inr (.inr (.inl ⟨f0, f1, f2, f3, f4, g5⟩)))))
  have f5 : b ≤ 8192 := by omega
  by_cases g6 : 65536 < c
  · exact .inr (.inr (.inr (.inr (.inr (.inr (.inl ⟨f0, f1, f2, f3, f4, f5, g6⟩))))))
  have f6 : c ≤ 65536 := by omega
  by_cases g7 : 516 < k
  · exact .inr (.inr (.inr (.inr (.inr (.inr (.inr (.inl ⟨f0, f1, f2, f3, f4, f5, f6, g7⟩)))))))
  have f7 : k ≤ 516 := by omega
  by_cases g8 : x < 0
  · exact .inr (.inr (.inr (.inr (.inr (.inr (.inr (.inr (.inl ⟨f0, f1, f2, f3, f4, f5, f6, f7, g8⟩))))))))
  have f8 : 0 ≤ x := by omega
  by_cases g9 : 8192 < x
  · exact .inr (.inr (.inr (.inr (.inr (.inr (.inr (.inr (.inr (.inl ⟨f0, f1, f2, f3, f4, f5, f6, f7, f8, g9⟩)))))))))
  have f9 : x ≤ 8192 := by omega
  by_cases g10 : s < 0
  · exact .inr (.inr (.inr (.inr (.inr (.inr (.inr (.inr (.inr (.inr (.inl ⟨f0, f1, f2, f3, f4, f5, f6, f7, f8, f9, g10⟩))))))))))
  have f10 : 0 ≤ s := by omega
  by_cases g11 : 65536 < s
  · exact .inr (.inr (.inr (.inr (.inr (.inr (.inr (.inr (.inr (.inr (.inr (.inl ⟨f0, f1, f2, f3, f4, f5, f6, f7, f8, f9, f10, g11⟩)))))))))))
  have f11 : s ≤ 65536 := by omega
  by_cases g12 : d < 0
  · exact .inr (.inr (.inr (.inr (.inr (.inr (.inr (.inr (.inr (.inr (.inr (.inr (.inl ⟨f0, f1, f2, f3, f4, f5, f6, f7, f8, f9, f10, f11, g12⟩))))))))))))
  have f12 : 0 ≤ d := by omega
  by_cases g13 : 64 < d
  · exact .inr (.inr (.inr (.inr (.inr (.inr (.inr (.inr (.inr (.inr (.inr (.inr (.inr (⟨f0, f1, f2, f3, f4, f5, f6, f7, f8, f9, f10, f11, f12, g13⟩)))))))))))))
  have f13 : d ≤ 64 := by omega
  exact absurd ⟨⟨f12, f13⟩, ⟨⟨f8, f9⟩, ⟨f0, f4⟩, f1, f5⟩, ⟨⟨f10, f11⟩, f2, f6⟩, f3, f7⟩ h

end Go.Proofs.Ythbcbeaagmgafaa
