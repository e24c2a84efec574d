/- Alias tables, by themselves: the making, step by step; each option is meant as often as it weighs. -/
namespace Go.Proofs.Ytmnemandmpoioaa

/-- f, but x gives v. -/
def upd {α : Type} (f : Nat → α) (x : Nat) (v : α) : Nat → α := fun i => if i = x then v else f i
theorem upd_self {α : Type} (f : Nat → α) (x : Nat) (v : α) : upd f x v x = v := if_pos rfl
theorem upd_ne {α : Type} {f : Nat → α} {x : Nat} {v : α} {i : Nat} (h : i ≠ x) : upd f x v i = f i := if_neg h
theorem ne_mem {z y : Nat} {L : List Nat} (hz : z ∈ L) (hy : y ∉ L) : z ≠ y := fun e => hy (e ▸ hz)
/-- The sum of the first n. -/
def sumN (f : Nat → Int) : Nat → Int
  | 0 => 0
  | n + 1 => sumN f n + f n
theorem sumN_congr {f g : Nat → Int} : ∀ {n : Nat}, (∀ i, i < n → f i = g i) → sumN f n = sumN g n
  | 0, _ => rfl
  | n + 1, h => by rw [sumN, sumN, sumN_congr fun i hi => h i (by omega), h n (by omega)]
theorem sumN_upd (f : Nat → Int) (x : Nat) (v : Int) : ∀ n, sumN (upd f x v) n = sumN f n + if x < n then v - f x else 0
  | 0 => by simp [sumN]
  | n + 1 => by
    rw [sumN, sumN, sumN_upd f x v n]
    by_cases h : n = x
    · subst h
      rw [upd_self, if_neg (by omega), if_pos (by omega)]
      omega
    · rw [upd_ne h]
      by_cases hx : x < n
      · rw [if_pos hx, if_pos (by omega)]; omega
      · rw [if_neg hx, if_neg (by omega)]; omega
theorem sumN_add (f g : Nat → Int) : ∀ n, sumN (fun i => f i + g i) n = sumN f n + sumN g n
  | 0 => rfl
  | n + 1 => by rw [sumN, sumN, sumN, sumN_add f g n]; omega
theorem sumN_mul (f : Nat → Int) (c : Int) : ∀ n, sumN (fun i => f i * c) n = sumN f n * c
  | 0 => by simp [sumN]
  | n + 1 => by rw [sumN, sumN, sumN_mul f c n, Int.add_mul]
theorem sumN_const (c : Int) : ∀ n : Nat, sumN (fun _ => c) n = n * c
  | 0 => by simp [sumN]
  | n + 1 => by rw [sumN, sumN_const c n]; rw [show ((n + 1 : Nat) : Int) = (n : Int) + 1 by omega, Int.add_mul]; omega
theorem sumN_nonneg {f : Nat → Int} : ∀ {n : Nat}, (∀ i, i < n → 0 ≤ f i) → 0 ≤ sumN f n
  | 0, _ => by simp [sumN]
  | n + 1, h => by
    have a := sumN_nonneg (f := f) (n := n) fun i hi => h i (by omega)
    have b := h n (by omega)
    rw [sumN]; omega
theorem sumN_ge {f : Nat → Int} {n j : Nat} (h : ∀ i, i < n → 0 ≤ f i) (hj : j < n) : f j ≤ sumN f n := by
  induction n with
  | zero => omega
  | succ n ih =>
    have a := sumN_nonneg (f := f) (n := n) fun i hi => h i (by omega)
    have b := h n (by omega)
    rw [sumN]
    by_cases e : j = n
    · subst e; omega
    · have := ih (fun i hi => h i (by omega)) (by omega); omega
theorem sumN_le {f : Nat → Int} {n : Nat} {c : Int} (h : ∀ i, i < n → f i ≤ c) : sumN f n ≤ n * c := by
  induction n with
  | zero => simp [sumN]
  | succ n ih =>
    have a := ih fun i hi => h i (by omega)
    have b := h n (by omega)
    rw [sumN, show ((n + 1 : Nat) : Int) = (n : Int) + 1 by omega, Int.add_mul]; omega

/-- The sum over a list. -/
def sumL (f : Nat → Int) : List Nat → Int
  | [] => 0
  | x :: l => f x + sumL f l
theorem sumL_congr {f g : Nat → Int} : ∀ {l : List Nat}, (∀ i, i ∈ l → f i = g i) → sumL f l = sumL g l
  | [], _ => rfl
  | x :: l, h => by rw [sumL, sumL, h x (by simp), sumL_congr fun i hi => h i (by simp [hi])]
theorem sumL_neg {f : Nat → Int} {l : List Nat} (h : ∀ i, i ∈ l → f i < 0) (h0 : 0 ≤ sumL f l) : l = [] := by
  cases l with
  | nil => rfl
  | cons x l =>
    exfalso
    have le : ∀ l : List Nat, (∀ i, i ∈ l → f i < 0) → sumL f l ≤ 0 := by
      intro l
      induction l with
      | nil => intro _; simp [sumL]
      | cons y l ih =>
        intro h
        have := h y (by simp)
        have := ih fun i hi => h i (by simp [hi])
        rw [sumL]; omega
    have := le l fun i hi => h i (by simp [hi])
    have := h x (by simp)
    rw [sumL] at h0
    omega
theorem sumL_zero {f : Nat → Int} : ∀ {l : List Nat}, (∀ i, i ∈ l → 0 ≤ f i) → sumL f l ≤ 0 → ∀ i, i ∈ l → f i = 0
  | [], _, _ => by simp
  | x :: l, h, h0 => by
    have nn : ∀ l : List Nat, (∀ i, i ∈ l → 0 ≤ f i) → 0 ≤ sumL f l := by
      intro l
      induction l with
      | nil => intro _; simp [sumL]
      | cons y l ih =>
        intro h
        have := h y (by simp)
        have := ih fun i hi => h i (by simp [hi])
        rw [sumL]; omega
    have a := h x (by simp)
    have b := nn l fun i hi => h i (by simp [hi])
    rw [sumL] at h0
    intro i hi
    rcases List.mem_cons.1 hi with rfl | hi
    · omega
    · exact sumL_zero (fun i hi => h i (by simp [hi])) (by omega) i hi

/-- The columns that come out: thresholds and aliases. H: what each has left; L, V: the light ones and the heavy ones, the last first. -/
def fin (t : Int) : Nat → (Nat → Int) → (Nat → Int) → (Nat → Nat) → List Nat → List Nat → (Nat → Int) × (Nat → Nat)
  | k + 1, H, T, A, x :: L, y :: V =>
    if H y - (t - H x) < t then fin t k (upd H y (H y - (t - H x))) (upd T x (H x)) (upd A x y) (y :: L) V
    else fin t k (upd H y (H y - (t - H x))) (upd T x (H x)) (upd A x y) L (y :: V)
  | _, _, T, A, _, _ => (T, A)
theorem fin_none (t : Int) (k : Nat) (H T : Nat → Int) (A : Nat → Nat) (V : List Nat) : fin t k H T A [] V = (T, A) := by cases k <;> simp [fin]
theorem fin_last (t : Int) (k : Nat) (H T : Nat → Int) (A : Nat → Nat) (L : List Nat) : fin t k H T A L [] = (T, A) := by cases k <;> cases L <;> simp [fin]
theorem fin_light {t : Int} {k : Nat} {H T : Nat → Int} {A : Nat → Nat} {x y : Nat} {L V : List Nat} (h : H y - (t - H x) < t) :
    fin t (k + 1) H T A (x :: L) (y :: V) = fin t k (upd H y (H y - (t - H x))) (upd T x (H x)) (upd A x y) (y :: L) V := by rw [fin, if_pos h]
theorem fin_heavy {t : Int} {k : Nat} {H T : Nat → Int} {A : Nat → Nat} {x y : Nat} {L V : List Nat} (h : ¬ H y - (t - H x) < t) :
    fin t (k + 1) H T A (x :: L) (y :: V) = fin t k (upd H y (H y - (t - H x))) (upd T x (H x)) (upd A x y) L (y :: V) := by rw [fin, if_neg h]

/-- What holds of the lists. -/
structure Lists (t M : Int) (n : Nat) (H : Nat → Int) (L V : List Nat) : Prop where
  lt : ∀ x, x ∈ L → x < n ∧ 0 ≤ H x ∧ H x < t
  hv : ∀ y, y ∈ V → y < n ∧ t ≤ H y ∧ H y ≤ M
  lu : L.Nodup
  vu : V.Nodup

theorem Lists.apart {t M : Int} {n : Nat} {H : Nat → Int} {L V : List Nat} (h : Lists t M n H L V) {x y : Nat} (hx : x ∈ L) (hy : y ∈ V) : x ≠ y := by
  rintro rfl
  have := (h.lt _ hx).2.2
  have := (h.hv _ hy).2.1
  omega

theorem Lists.stepL {t M : Int} {n : Nat} {H : Nat → Int} {x y : Nat} {L V : List Nat} (h : Lists t M n H (x :: L) (y :: V)) (hl : H y - (t - H x) < t) : Lists t M n (upd H y (H y - (t - H x))) (y :: L) V := by
  obtain ⟨x0, x1, x2⟩ := h.lt x (by simp)
  obtain ⟨y0, y1, y2⟩ := h.hv y (by simp)
  have hy : y ∉ V := (List.nodup_cons.1 h.vu).1
  have hyL : y ∉ L := fun hm => h.apart (x := y) (y := y) (by simp [hm]) (by simp) rfl
  refine ⟨fun z hz => ?_, fun z hz => ?_, List.nodup_cons.2 ⟨hyL, (List.nodup_cons.1 h.lu).2⟩, (List.nodup_cons.1 h.vu).2⟩
  · rcases List.mem_cons.1 hz with rfl | hz
    · rw [upd_self]; omega
    · rw [upd_ne (ne_mem hz hyL)]; exact h.lt z (by simp [hz])
  · rw [upd_ne (ne_mem hz hy)]; exact h.hv z (by simp [hz])
theorem Lists.stepV {t M : Int} {n : Nat} {H : Nat → Int} {x y : Nat} {L V : List Nat} (h : Lists t M n H (x :: L) (y :: V)) (hl : ¬ H y - (t - H x) < t) : Lists t M n (upd H y (H y - (t - H x))) L (y :: V) := by
  obtain ⟨x0, x1, x2⟩ := h.lt x (by simp)
  obtain ⟨y0, y1, y2⟩ := h.hv y (by simp)
  have hy : y ∉ V := (List.nodup_cons.1 h.vu).1
  have hyL : y ∉ L := fun hm => h.apart (x := y) (y := y) (by simp [hm]) (by simp) rfl
  refine ⟨fun z hz => ?_, fun z hz => ?_, (List.nodup_cons.1 h.lu).2, h.vu⟩
  · rw [upd_ne (ne_mem hz hyL)]; exact h.lt z (by simp [hz])
  · rcases List.mem_cons.1 hz with rfl | hz
    · rw [upd_self]; omega
    · rw [upd_ne (ne_mem hz hy)]; exact h.hv z (by simp [hz])

/-- The light ones, the heavy ones, of the first n: the last first. -/
def lights (t : Int) (H : Nat → Int) : Nat → List Nat
  | 0 => []
  | n + 1 => if H n < t then n :: lights t H n else lights t H n
def heavies (t : Int) (H : Nat → Int) : Nat → List Nat
  | 0 => []
  | n + 1 => if H n < t then heavies t H n else n :: heavies t H n
theorem mem_lights {t : Int} {H : Nat → Int} {i : Nat} : ∀ {n : Nat}, i ∈ lights t H n ↔ i < n ∧ H i < t
  | 0 => by simp [lights]
  | n + 1 => by
    rw [lights]
    split
    · rename_i h
      rw [List.mem_cons, mem_lights]
      constructor
      · rintro (rfl | ⟨a, b⟩)
        · exact ⟨by omega, h⟩
        · exact ⟨by omega, b⟩
      · rintro ⟨a, b⟩
        by_cases e : i = n
        · exact .inl e
        · exact .inr ⟨by omega, b⟩
    · rename_i h
      rw [mem_lights]
      constructor
      · rintro ⟨a, b⟩; exact ⟨by omega, b⟩
      · rintro ⟨a, b⟩
        refine ⟨?_, b⟩
        by_cases e : i = n
        · subst e; exact absurd b h
        · omega
theorem mem_heavies {t : Int} {H : Nat → Int} {i : Nat} : ∀ {n : Nat}, i ∈ heavies t H n ↔ i < n ∧ ¬ H i < t
  | 0 => by simp [heavies]
  | n + 1 => by
    rw [heavies]
    split
    · rename_i h
      rw [mem_heavies]
      constructor
      · rintro ⟨a, b⟩; exact ⟨by omega, b⟩
      · rintro ⟨a, b⟩
        refine ⟨?_, b⟩
        by_cases e : i = n
        · subst e; exact absurd h b
        · omega
    · rename_i h
      rw [List.mem_cons, mem_heavies]
      constructor
      · rintro (rfl | ⟨a, b⟩)
        · exact ⟨by omega, h⟩
        · exact ⟨by omega, b⟩
      · rintro ⟨a, b⟩
        by_cases e : i = n
        · exact .inl e
        · exact .inr ⟨by omega, b⟩
theorem lights_nodup (t : Int) (H : Nat → Int) : ∀ n, (lights t H n).Nodup
  | 0 => by simp [lights]
  | n + 1 => by
    rw [lights]
    split
    · exact List.nodup_cons.2 ⟨fun h => by have := (mem_lights.1 h).1; omega, lights_nodup t H n⟩
    · exact lights_nodup t H n
theorem heavies_nodup (t : Int) (H : Nat → Int) : ∀ n, (heavies t H n).Nodup
  | 0 => by simp [heavies]
  | n + 1 => by
    rw [heavies]
    split
    · exact heavies_nodup t H n
    · exact List.nodup_cons.2 ⟨fun h => by have := (mem_heavies.1 h).1; omega, heavies_nodup t H n⟩
theorem both_len (t : Int) (H : Nat → Int) : ∀ n, (lights t H n).length + (heavies t H n).length = n
  | 0 => by simp [lights, heavies]
  | n + 1 => by
    have := both_len t H n
    rw [lights, heavies]
    split <;> simp only [List.length_cons] <;> omega
theorem both_sum (t : Int) (H f : Nat → Int) : ∀ n, sumL f (lights t H n) + sumL f (heavies t H n) = sumN f n
  | 0 => by simp [lights, heavies, sumL, sumN]
  | n + 1 => by
    have := both_sum t H f n
    rw [lights, heavies, sumN]
    split <;> simp only [sumL] <;> omega
theorem lists_start {t M : Int} {n : Nat} {H : Nat → Int} (h0 : ∀ i, i < n → 0 ≤ H i) (h1 : ∀ i, i < n → H i ≤ M) : Lists t M n H (lights t H n) (heavies t H n) :=
  ⟨fun x hx => ⟨(mem_lights.1 hx).1, h0 x (mem_lights.1 hx).1, (mem_lights.1 hx).2⟩, fun y hy => ⟨(mem_heavies.1 hy).1, by have := (mem_heavies.1 hy).2; omega, h1 y (mem_heavies.1 hy).1⟩, lights_nodup t H n, heavies_nodup t H n⟩

/-- How often i is meant as an alias. -/
def gave (t : Int) (T : Nat → Int) (A : Nat → Nat) (n i : Nat) : Int := sumN (fun j => if A j = i then t - T j else 0) n

/-- What holds of all options while the columns are laid: W: what each one is to be meant by. -/
structure Laid (t : Int) (n : Nat) (W H T : Nat → Int) (A : Nat → Nat) (L V : List Nat) : Prop where
  left : ∀ i, i < n → (i ∈ L ∨ i ∈ V) → H i + gave t T A n i = W i ∧ T i = t
  done : ∀ i, i < n → ¬ (i ∈ L ∨ i ∈ V) → T i + gave t T A n i = W i
  rng : ∀ i, i < n → 0 ≤ T i ∧ T i ≤ t ∧ A i < n
  sum : sumL (fun i => H i - t) L + sumL (fun i => H i - t) V = 0

theorem gave_upd {t : Int} {T : Nat → Int} {A : Nat → Nat} {n x y i : Nat} {v : Int} (hx : x < n) (hT : T x = t) : gave t (upd T x v) (upd A x y) n i = gave t T A n i + if y = i then t - v else 0 := by
  unfold gave
  rw [show (fun j => if upd A x y j = i then t - upd T x v j else 0) = upd (fun j => if A j = i then t - T j else 0) x (if y = i then t - v else 0) from ?_]
  · rw [sumN_upd, if_pos hx, hT]
    split <;> split <;> omega
  · funext j
    unfold upd
    by_cases h : j = x
    · simp [h]
    · simp [h]

theorem Laid.end {t : Int} {n : Nat} {W H T : Nat → Int} {A : Nat → Nat} {M : Int} {L V : List Nat} (h : Laid t n W H T A L V) (hL : Lists t M n H L V) (he : L = [] ∨ V = []) :
    ∀ i, i < n → 0 ≤ T i ∧ T i ≤ t ∧ A i < n ∧ T i + gave t T A n i = W i := by
  have hs := h.sum
  have hLe : L = [] := by
    rcases he with he | he
    · exact he
    · subst he
      simp only [sumL, Int.add_zero] at hs
      exact sumL_neg (f := fun i => H i - t) (fun i hi => by have := (hL.lt i hi).2.2; show H i - t < 0; omega) (by omega)
  subst hLe
  simp only [sumL, Int.zero_add] at hs
  have hz := sumL_zero (f := fun i => H i - t) (l := V) (fun i hi => by have := (hL.hv i hi).2.1; show 0 ≤ H i - t; omega) (by omega)
  intro i hi
  obtain ⟨r0, r1, r2⟩ := h.rng i hi
  refine ⟨r0, r1, r2, ?_⟩
  by_cases hm : i ∈ V
  · obtain ⟨a, b⟩ := h.left i hi (.inr hm)
    have := hz i hm
    omega
  · exact h.done i hi (by simp [hm])

theorem Laid.step {t M : Int} {n : Nat} {W H T : Nat → Int} {A : Nat → Nat} {x y : Nat} {L V L' V' : List Nat} (h : Laid t n W H T A (x :: L) (y :: V)) (hL : Lists t M n H (x :: L) (y :: V))
    (hw : (L' = y :: L ∧ V' = V) ∨ (L' = L ∧ V' = y :: V)) : Laid t n W (upd H y (H y - (t - H x))) (upd T x (H x)) (upd A x y) L' V' := by
  obtain ⟨x0, x1, x2⟩ := hL.lt x (by simp)
  obtain ⟨y0, y1, y2⟩ := hL.hv y (by simp)
  have hxy : x ≠ y := hL.apart (by simp) (by simp)
  have hxL : x ∉ L := (List.nodup_cons.1 hL.lu).1
  have hxV : x ∉ V := fun hm => hL.apart (x := x) (y := x) (by simp) (by simp [hm]) rfl
  have hyV : y ∉ V := (List.nodup_cons.1 hL.vu).1
  have hyL : y ∉ L := fun hm => hL.apart (x := y) (y := y) (by simp [hm]) (by simp) rfl
  have hTx := (h.left x x0 (by simp)).2
  have hmem : ∀ i, (i ∈ L' ∨ i ∈ V') ↔ (i = y ∨ i ∈ L ∨ i ∈ V) := by
    intro i
    rcases hw with ⟨rfl, rfl⟩ | ⟨rfl, rfl⟩
    · rw [List.mem_cons, or_assoc]
    · rw [List.mem_cons]
      constructor
      · rintro (a | a | a) <;> simp [a]
      · rintro (a | a | a) <;> simp [a]
  refine ⟨fun i hi hm => ?_, fun i hi hm => ?_, fun i hi => ?_, ?_⟩
  · rw [gave_upd x0 hTx]
    by_cases e : i = y
    · subst e
      obtain ⟨a, b⟩ := h.left i hi (by simp)
      rw [upd_self, if_pos rfl, upd_ne (Ne.symm hxy)]
      exact ⟨by omega, b⟩
    · have hm' := (hmem i).1 hm
      have hix : i ≠ x := by
        rintro rfl
        rcases hm' with a | a | a
        · exact e a
        · exact hxL a
        · exact hxV a
      obtain ⟨a, b⟩ := h.left i hi (by rcases hm' with a | a | a <;> simp [a])
      rw [upd_ne e, if_neg (Ne.symm e), upd_ne hix]
      exact ⟨by omega, b⟩
  · rw [gave_upd x0 hTx]
    have hm' : ¬ (i = y ∨ i ∈ L ∨ i ∈ V) := fun a => hm ((hmem i).2 a)
    have e : i ≠ y := fun a => hm' (.inl a)
    rw [if_neg (Ne.symm e)]
    by_cases hix : i = x
    · subst hix
      rw [upd_self]
      have := (h.left i hi (by simp)).1
      omega
    · rw [upd_ne hix]
      have := h.done i hi (by
        rintro (a | a)
        · rcases List.mem_cons.1 a with a | a
          · exact hix a
          · exact hm' (.inr (.inl a))
        · rcases List.mem_cons.1 a with a | a
          · exact e a
          · exact hm' (.inr (.inr a)))
      omega
  · obtain ⟨r0, r1, r2⟩ := h.rng i hi
    by_cases hix : i = x
    · subst hix; rw [upd_self, upd_self]; omega
    · rw [upd_ne hix, upd_ne hix]; exact ⟨r0, r1, r2⟩
  · have hs := h.sum
    simp only [sumL] at hs
    have e1 : sumL (fun i => upd H y (H y - (t - H x)) i - t) L = sumL (fun i => H i - t) L := sumL_congr fun i hi => by rw [upd_ne (ne_mem hi hyL)]
    have e2 : sumL (fun i => upd H y (H y - (t - H x)) i - t) V = sumL (fun i => H i - t) V := sumL_congr fun i hi => by rw [upd_ne (ne_mem hi hyV)]
    rcases hw with ⟨rfl, rfl⟩ | ⟨rfl, rfl⟩
    · rw [sumL, e1, e2, upd_self]; omega
    · rw [sumL, e1, e2, upd_self]; omega

/-- Each option is meant as often as it is to be. -/
theorem fin_right {t M : Int} {n : Nat} {W : Nat → Int} : ∀ (k : Nat) (H T : Nat → Int) (A : Nat → Nat) (L V : List Nat), L.length + V.length ≤ k → Lists t M n H L V → Laid t n W H T A L V →
    ∀ i, i < n → 0 ≤ (fin t k H T A L V).1 i ∧ (fin t k H T A L V).1 i ≤ t ∧ (fin t k H T A L V).2 i < n ∧ (fin t k H T A L V).1 i + gave t (fin t k H T A L V).1 (fin t k H T A L V).2 n i = W i
  | k, H, T, A, [], V, _, hL, hI => by rw [fin_none]; exact hI.end hL (.inl rfl)
  | k, H, T, A, x :: L, [], _, hL, hI => by rw [fin_last]; exact hI.end hL (.inr rfl)
  | 0, H, T, A, x :: L, y :: V, h, hL, hI => by simp at h
  | k + 1, H, T, A, x :: L, y :: V, h, hL, hI => by
    by_cases hl : H y - (t - H x) < t
    · rw [fin_light hl]
      exact fin_right k _ _ _ _ _ (by simp only [List.length_cons] at h ⊢; omega) (hL.stepL hl) (hI.step hL (.inl ⟨rfl, rfl⟩))
    · rw [fin_heavy hl]
      exact fin_right k _ _ _ _ _ (by simp only [List.length_cons] at h ⊢; omega) (hL.stepV hl) (hI.step hL (.inr ⟨rfl, rfl⟩))

/-- What each has at first, and the columns of these weights, of this total. -/
def hasF (n : Nat) (ws : Nat → Int) : Nat → Int := fun i => ws i * n
def colsF (t : Int) (n : Nat) (ws : Nat → Int) : (Nat → Int) × (Nat → Nat) := fin t n (hasF n ws) (fun _ => t) (fun i => i) (lights t (hasF n ws) n) (heavies t (hasF n ws) n)

theorem laid_start {t : Int} {n : Nat} {ws : Nat → Int} (ht : t = sumN ws n) (ht0 : 0 ≤ t) : Laid t n (hasF n ws) (hasF n ws) (fun _ => t) (fun i => i) (lights t (hasF n ws) n) (heavies t (hasF n ws) n) := by
  have hg : ∀ i, gave t (fun _ => t) (fun i => i) n i = 0 := by
    intro i
    unfold gave
    rw [sumN_congr (g := fun _ => 0) (fun j _ => by show (if j = i then t - t else 0) = 0; split <;> omega), sumN_const]
    simp
  refine ⟨fun i hi _ => ⟨by rw [hg]; omega, rfl⟩, fun i hi hm => ?_, fun i hi => ⟨ht0, Int.le_refl _, hi⟩, ?_⟩
  · exfalso
    apply hm
    by_cases h : hasF n ws i < t
    · exact .inl (mem_lights.2 ⟨hi, h⟩)
    · exact .inr (mem_heavies.2 ⟨hi, h⟩)
  · rw [both_sum]
    have e := sumN_add (fun i => hasF n ws i - t) (fun _ => t) n
    rw [sumN_congr (g := hasF n ws) (fun i _ => by omega), sumN_const] at e
    have e2 := sumN_mul ws n n
    have e3 : sumN (hasF n ws) n = sumN (fun i => ws i * (n : Int)) n := rfl
    rw [e3, e2, ← ht, Int.mul_comm] at e
    omega

theorem cols_right {t M : Int} {n : Nat} {ws : Nat → Int} (ht : t = sumN ws n) (ht0 : 0 ≤ t) (h0 : ∀ i, i < n → 0 ≤ ws i) (h1 : ∀ i, i < n → ws i ≤ M) :
    ∀ i, i < n → 0 ≤ (colsF t n ws).1 i ∧ (colsF t n ws).1 i ≤ t ∧ (colsF t n ws).2 i < n ∧ (colsF t n ws).1 i + gave t (colsF t n ws).1 (colsF t n ws).2 n i = ws i * n :=
  fin_right n _ _ _ _ _ (Nat.le_of_eq (both_len _ _ _)) (lists_start (M := M * n) (fun i hi => Int.mul_nonneg (h0 i hi) (by omega)) (fun i hi => Int.mul_le_mul_of_nonneg_right (h1 i hi) (by omega))) (laid_start ht ht0)

/-- What is meant weighs more than nothing. -/
theorem meant_weighs {t M : Int} {n : Nat} {ws : Nat → Int} (ht : t = sumN ws n) (ht0 : 0 ≤ t) (h0 : ∀ i, i < n → 0 ≤ ws i) (h1 : ∀ i, i < n → ws i ≤ M) {i : Nat} (hi : i < n) {r : Int} (r0 : 0 ≤ r) (r1 : r < t) :
    0 < ws (if r < (colsF t n ws).1 i then i else (colsF t n ws).2 i) := by
  have R := cols_right ht ht0 h0 h1
  obtain ⟨a0, a1, a2, a3⟩ := R i hi
  have gn : ∀ j, 0 ≤ gave t (colsF t n ws).1 (colsF t n ws).2 n j := fun j => sumN_nonneg fun k hk => by
    have := (R k hk).2.1
    split <;> omega
  have pos : ∀ j, 0 < ws j * (n : Int) → 0 < ws j := fun j h => by
    rcases Int.lt_or_le 0 (ws j) with h' | h'
    · exact h'
    · have := Int.mul_le_mul_of_nonneg_right h' (show (0 : Int) ≤ n by omega)
      omega
  apply pos
  split
  · rename_i h
    have := gn i
    omega
  · rename_i h
    obtain ⟨b0, b1, b2, b3⟩ := R _ a2
    have := sumN_ge (f := fun j => if (colsF t n ws).2 j = (colsF t n ws).2 i then t - (colsF t n ws).1 j else 0) (n := n) (j := i) (fun k hk => by
      have := (R k hk).2.1
      by_cases e : (colsF t n ws).2 k = (colsF t n ws).2 i
      · simp only [if_pos e]; omega
      · simp only [if_neg e]; omega) hi
    simp only [if_pos] at this
    unfold gave at b3
    omega
end Go.Proofs.Ytmnemandmpoioaa
