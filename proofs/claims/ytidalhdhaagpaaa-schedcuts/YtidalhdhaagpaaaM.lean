/-
  Own slots of a tenant in a table that is gone round for ever, counted, and the widest gap between two; conditions as each theorem has them.
-/
import Derived.Test.YtidalhdhaagpaaaRows
set_option linter.unusedSimpArgs false
set_option linter.unusedVariables false
namespace Go.Proofs.Ytidalhdhaagpaaa

/-- Is tick j one of tenant t's? -/
def own (T : List (Int × Int)) (t : Int) (j : Nat) : Prop := ∃ p, T[j % T.length]? = some p ∧ p.1 = t

/-- How many own ticks there are ahead of tick j. -/
def C (T : List (Int × Int)) (t : Int) : Nat → Nat
  | 0 => 0
  | j + 1 => C T t j + match T[j % T.length]? with
    | some p => if p.1 = t then 1 else 0
    | none => 0

theorem own_at {T : List (Int × Int)} {t : Int} {j : Nat} {p : Int × Int} (h : T[j % T.length]? = some p) : own T t j ↔ p.1 = t := by
  constructor
  · rintro ⟨q, hq, e⟩
    rw [h] at hq
    cases hq
    exact e
  · exact fun e => ⟨p, h, e⟩
theorem own_low {T : List (Int × Int)} {t : Int} {j : Nat} {p : Int × Int} (h : T[j]? = some p) : own T t j ↔ p.1 = t :=
  own_at (by rw [Nat.mod_eq_of_lt (List.getElem?_eq_some_iff.1 h).1]; exact h)
theorem own_add (T : List (Int × Int)) (t : Int) (j : Nat) : own T t (j + T.length) ↔ own T t j := by
  unfold own
  rw [Nat.add_mod_right]
theorem own_mul (T : List (Int × Int)) (t : Int) (q j : Nat) : own T t (q * T.length + j) ↔ own T t j := by
  unfold own
  rw [Nat.add_comm, Nat.mul_comm, Nat.add_mul_mod_self_left]
theorem own_mod (T : List (Int × Int)) (t : Int) (j : Nat) : own T t (j % T.length) ↔ own T t j := by
  unfold own
  rw [Nat.mod_mod]

theorem C_own {T : List (Int × Int)} {t : Int} {j : Nat} (h : own T t j) : C T t (j + 1) = C T t j + 1 := by
  obtain ⟨p, hp, e⟩ := h
  simp [C, hp, e]
theorem C_not {T : List (Int × Int)} {t : Int} {j : Nat} (h : ¬ own T t j) : C T t (j + 1) = C T t j := by
  cases hp : T[j % T.length]? with
  | none => simp [C, hp]
  | some p =>
    have hne : ¬ p.1 = t := fun e => h ⟨p, hp, e⟩
    simp [C, hp, hne]
theorem C_step (T : List (Int × Int)) (t : Int) (j : Nat) : C T t j ≤ C T t (j + 1) := Nat.le_add_right _ _
theorem C_mono (T : List (Int × Int)) (t : Int) {i j : Nat} (h : i ≤ j) : C T t i ≤ C T t j := by
  induction h with
  | refl => exact Nat.le_refl _
  | step _ ih => exact Nat.le_trans ih (C_step T t _)
theorem C_le (T : List (Int × Int)) (t : Int) : ∀ j, C T t j ≤ j
  | 0 => Nat.le_refl _
  | j + 1 => by
    have := C_le T t j
    by_cases h : own T t j
    · rw [C_own h]; omega
    · rw [C_not h]; omega
theorem C_add (T : List (Int × Int)) (t : Int) : ∀ j, C T t (j + T.length) = C T t T.length + C T t j
  | 0 => by simp [C]
  | j + 1 => by
    rw [show j + 1 + T.length = (j + T.length) + 1 by omega]
    by_cases h : own T t j
    · rw [C_own ((own_add T t j).2 h), C_own h, C_add T t j]; omega
    · rw [C_not (fun e => h ((own_add T t j).1 e)), C_not h, C_add T t j]
theorem C_mul (T : List (Int × Int)) (t : Int) (j : Nat) : ∀ q, C T t (q * T.length + j) = q * C T t T.length + C T t j
  | 0 => by simp
  | q + 1 => by
    rw [show (q + 1) * T.length + j = (q * T.length + j) + T.length by rw [Nat.add_mul]; omega, C_add, C_mul T t j q, Nat.add_mul]
    omega
theorem C_div (T : List (Int × Int)) (t : Int) (x : Nat) : C T t x = x / T.length * C T t T.length + C T t (x % T.length) := by
  conv => lhs; rw [← Nat.div_add_mod x T.length, Nat.mul_comm]
  exact C_mul T t _ _
theorem C_lt {T : List (Int × Int)} {t : Int} {i j : Nat} (h : C T t i < C T t j) : i < j := by
  rcases Nat.lt_or_ge i j with g | g
  · exact g
  · have := C_mono T t g; omega
theorem C_past {T : List (Int × Int)} {t : Int} {i j : Nat} (h : own T t i) (hij : i < j) : C T t i + 1 ≤ C T t j := by
  rw [← C_own h]; exact C_mono T t hij
theorem C_pos {T : List (Int × Int)} {t : Int} : ∀ {j : Nat}, 0 < C T t j → ∃ i, i < j ∧ own T t i
  | 0, h => by simp [C] at h
  | j + 1, h => by
    by_cases g : own T t j
    · exact ⟨j, by omega, g⟩
    · rw [C_not g] at h
      obtain ⟨i, hi, ho⟩ := C_pos h
      exact ⟨i, by omega, ho⟩

/-- The tick of the k-th own slot. -/
structure IsWhen (T : List (Int × Int)) (t : Int) (k x : Nat) : Prop where
  mine : own T t x
  cnt : C T t x = k
theorem IsWhen.uniq {T : List (Int × Int)} {t : Int} {k x y : Nat} (h : IsWhen T t k x) (g : IsWhen T t k y) : x = y := by
  rcases Nat.lt_trichotomy x y with hl | rfl | hl
  · have := C_past h.mine hl; have := h.cnt; have := g.cnt; omega
  · rfl
  · have := C_past g.mine hl; have := h.cnt; have := g.cnt; omega
theorem IsWhen.frame {T : List (Int × Int)} {t : Int} {k x : Nat} (h : IsWhen T t (k % C T t T.length) x) : IsWhen T t k (k / C T t T.length * T.length + x) :=
  ⟨(own_mul T t _ _).2 h.mine, by rw [C_mul, h.cnt, Nat.mul_comm]; exact Nat.div_add_mod _ _⟩
theorem IsWhen.low {T : List (Int × Int)} {t : Int} {k x : Nat} (h : IsWhen T t k x) (hk : k < C T t T.length) : x < T.length := C_lt (t := t) (by rw [h.cnt]; exact hk)
theorem IsWhen.next {T : List (Int × Int)} {t : Int} {k x y : Nat} (h : IsWhen T t k x) (g : IsWhen T t (k + 1) y) : x < y ∧ y ≤ x + T.length ∧ ∀ i, x < i → i < y → ¬ own T t i := by
  have hx := h.cnt
  have hy := g.cnt
  refine ⟨C_lt (t := t) (by rw [hx, hy]; omega), ?_, fun i h1 h2 ho => ?_⟩
  · rcases Nat.lt_or_ge (x + T.length) y with hl | hl
    · have h1 := C_past ((own_add T t x).2 h.mine) hl
      rw [C_add] at h1
      rcases Nat.eq_zero_or_pos T.length with h0 | h0
      · obtain ⟨p, hp, _⟩ := h.mine
        have := (List.getElem?_eq_some_iff.1 hp).1
        omega
      · have := C_past ((own_mod T t x).2 h.mine) (Nat.mod_lt x h0)
        omega
    · exact hl
  · have h3 := C_past h.mine h1
    have h4 := C_past ho h2
    omega

/-- The most ticks from an own slot to the next one. -/
structure IsGap (T : List (Int × Int)) (t : Int) (g : Nat) : Prop where
  pos : 0 < g
  next : ∀ a, own T t a → ∃ b, a < b ∧ b ≤ a + g ∧ own T t b
  wide : ∃ a, own T t a ∧ ∀ b, a < b → b < a + g → ¬ own T t b
theorem IsGap.uniq {T : List (Int × Int)} {t : Int} {g h : Nat} (hg : IsGap T t g) (hh : IsGap T t h) : g = h := by
  have aux : ∀ {g h : Nat}, IsGap T t g → IsGap T t h → h ≤ g := fun {g h} hg hh => by
    obtain ⟨a, ho, hf⟩ := hh.wide
    obtain ⟨b, h1, h2, h3⟩ := hg.next a ho
    rcases Nat.lt_or_ge g h with hl | hl
    · exact absurd h3 (hf b h1 (by omega))
    · exact hl
  exact Nat.le_antisymm (aux hh hg) (aux hg hh)
theorem IsGap.le {T : List (Int × Int)} {t : Int} {g : Nat} (h : IsGap T t g) (hn : 0 < T.length) : g ≤ T.length := by
  obtain ⟨a, ho, hf⟩ := h.wide
  rcases Nat.lt_or_ge T.length g with hl | hl
  · exact absurd ((own_add T t a).2 ho) (hf _ (by omega) (by omega))
  · exact hl

/-- The last own tick ahead of j. -/
theorem last_own {T : List (Int × Int)} {t : Int} : ∀ {j : Nat}, (∃ i, i < j ∧ own T t i) → ∃ l, l < j ∧ own T t l ∧ ∀ i, l < i → i < j → ¬ own T t i
  | 0, h => by obtain ⟨i, hi, _⟩ := h; omega
  | j + 1, h => by
    by_cases g : own T t j
    · exact ⟨j, by omega, g, fun i h1 h2 => by omega⟩
    · obtain ⟨i, hi, ho⟩ := h
      have hne : i ≠ j := fun e => g (e ▸ ho)
      obtain ⟨l, h1, h2, h3⟩ := last_own (j := j) ⟨i, by omega, ho⟩
      refine ⟨l, by omega, h2, fun x hx1 hx2 => ?_⟩
      rcases Nat.lt_or_ge x j with hl | hl
      · exact h3 x hx1 hl
      · obtain rfl : x = j := by omega
        exact g

theorem IsGap.within {T : List (Int × Int)} {t : Int} {g : Nat} (h : IsGap T t g) (f : Nat) : ∃ i, i < g ∧ own T t (f + i) := by
  obtain ⟨a, ho, _⟩ := h.wide
  have hn : 0 < T.length := by
    obtain ⟨p, hp, _⟩ := ho
    have := (List.getElem?_eq_some_iff.1 hp).1
    omega
  obtain ⟨l, h1, h2, h3⟩ := last_own (T := T) (t := t) (j := f + T.length) ⟨a % T.length, by have := Nat.mod_lt a hn; omega, (own_mod T t a).2 ho⟩
  obtain ⟨b, g1, g2, g3⟩ := h.next l h2
  have hb : f + T.length ≤ b := by
    rcases Nat.lt_or_ge b (f + T.length) with hl | hl
    · exact absurd g3 (h3 b g1 hl)
    · exact hl
  refine ⟨b - (f + T.length), by omega, ?_⟩
  rw [← own_add, show f + (b - (f + T.length)) + T.length = b by omega]
  exact g3

/-- What is known of the widest gap by tick j: the last own slot and the widest gap ahead of it. -/
def GapUp (T : List (Int × Int)) (t : Int) (j : Nat) (last most : Int) : Prop :=
  (last = -1 ∧ most = 0 ∧ ∀ i, i < j → ¬ own T t i) ∨
  ∃ l m : Nat, last = l ∧ most = m ∧ l < j ∧ m ≤ j ∧ own T t l ∧ (∀ i, l < i → i < j → ¬ own T t i) ∧ (∀ a, a < l → own T t a → ∃ b, a < b ∧ b ≤ a + m ∧ own T t b) ∧
    (m = 0 ∨ ∃ a, own T t a ∧ a + m ≤ l ∧ ∀ b, a < b → b < a + m → ¬ own T t b)

theorem GapUp.start (T : List (Int × Int)) (t : Int) : GapUp T t 0 (-1) 0 := Or.inl ⟨rfl, rfl, fun i hi => by omega⟩
theorem GapUp.skip {T : List (Int × Int)} {t : Int} {j : Nat} {last most : Int} (h : GapUp T t j last most) (hn : ¬ own T t j) : GapUp T t (j + 1) last most := by
  have aux : ∀ i, i < j + 1 → (i < j → ¬ own T t i) → ¬ own T t i := fun i hi g => by
    rcases Nat.lt_or_ge i j with hl | hl
    · exact g hl
    · obtain rfl : i = j := by omega
      exact hn
  rcases h with ⟨h1, h2, h3⟩ | ⟨l, m, h1, h2, h3, h4, h5, h6, h7, h8⟩
  · exact Or.inl ⟨h1, h2, fun i hi => aux i hi (h3 i)⟩
  · exact Or.inr ⟨l, m, h1, h2, by omega, by omega, h5, fun i hi hj => aux i hj (h6 i hi), h7, h8⟩
theorem GapUp.first {T : List (Int × Int)} {t : Int} {j : Nat} {last most : Int} (h : GapUp T t j last most) (ho : own T t j) (hl : last < 0) : GapUp T t (j + 1) j most := by
  rcases h with ⟨h1, h2, h3⟩ | ⟨l, m, h1, _⟩
  · exact Or.inr ⟨j, 0, rfl, h2, by omega, by omega, ho, fun i hi hj => by omega, fun a ha g => absurd g (h3 a ha), Or.inl rfl⟩
  · omega
theorem GapUp.next {T : List (Int × Int)} {t : Int} {j : Nat} {last most : Int} (h : GapUp T t j last most) (ho : own T t j) (hl : 0 ≤ last) : GapUp T t (j + 1) j (max most (j - last)) := by
  rcases h with ⟨h1, h2, h3⟩ | ⟨l, m, h1, h2, h3, h4, h5, h6, h7, h8⟩
  · omega
  · subst h1 h2
    refine Or.inr ⟨j, max m (j - l), rfl, by omega, by omega, by omega, ho, fun i hi hj => by omega, fun a ha g => ?_, Or.inr ?_⟩
    · rcases Nat.lt_trichotomy a l with g1 | rfl | g1
      · obtain ⟨b, b1, b2, b3⟩ := h7 a g1 g
        exact ⟨b, b1, by omega, b3⟩
      · exact ⟨j, h3, by omega, ho⟩
      · exact absurd g (h6 a g1 ha)
    · rcases Nat.lt_or_ge (j - l) m with g1 | g1
      · rcases h8 with h8 | ⟨a, a1, a2, a3⟩
        · omega
        · exact ⟨a, a1, by omega, fun b b1 b2 => a3 b b1 (by omega)⟩
      · exact ⟨l, h5, by omega, fun b b1 b2 => h6 b b1 (by omega)⟩
theorem GapUp.gap {T : List (Int × Int)} {t : Int} {last most : Int} (h : GapUp T t (2 * T.length) last most) (hp : 0 < C T t T.length) : ∃ g : Nat, most = g ∧ IsGap T t g := by
  obtain ⟨x, hx, hox⟩ := C_pos hp
  have ho2 := (own_add T t x).2 hox
  rcases h with ⟨h1, h2, h3⟩ | ⟨l, m, h1, h2, h3, h4, h5, h6, h7, h8⟩
  · exact absurd hox (h3 x (by omega))
  · have hxl : x + T.length ≤ l := by
      rcases Nat.lt_or_ge l (x + T.length) with g | g
      · exact absurd ho2 (h6 _ g (by omega))
      · exact g
    obtain ⟨b, b1, b2, b3⟩ := h7 x (by omega) hox
    refine ⟨m, h2, by omega, fun a ha => ?_, ?_⟩
    · have hlt := Nat.mod_lt a (show 0 < T.length by omega)
      obtain ⟨c, c1, c2, c3⟩ := h7 (a % T.length) (by omega) ((own_mod T t a).2 ha)
      have hd := Nat.div_add_mod a T.length
      rw [Nat.mul_comm] at hd
      exact ⟨a / T.length * T.length + c, by omega, by omega, (own_mul T t _ _).2 c3⟩
    · rcases h8 with h8 | ⟨a, a1, a2, a3⟩
      · omega
      · exact ⟨a, a1, a3⟩

/-- The same, gone by the own slots of one frame. -/
def GapOf (T : List (Int × Int)) (t : Int) (i m : Nat) : Prop :=
  m ≤ T.length ∧ (∀ a, a < i → own T t a → ∃ b, a < b ∧ b ≤ a + m ∧ own T t b) ∧ (m = 0 ∨ ∃ a, own T t a ∧ ∀ b, a < b → b < a + m → ¬ own T t b)
theorem GapOf.start (T : List (Int × Int)) (t : Int) : GapOf T t 0 0 := ⟨Nat.zero_le _, fun a ha => by omega, Or.inl rfl⟩
theorem GapOf.skip {T : List (Int × Int)} {t : Int} {i m : Nat} (h : GapOf T t i m) (hn : ¬ own T t i) : GapOf T t (i + 1) m :=
  ⟨h.1, fun a ha ho => by
    rcases Nat.lt_or_ge a i with hl | hl
    · exact h.2.1 a hl ho
    · obtain rfl : a = i := by omega
      exact absurd ho hn, h.2.2⟩
theorem GapOf.next {T : List (Int × Int)} {t : Int} {i m k : Nat} (h : GapOf T t i m) (ho : own T t i) (hk : 0 < k) (hkn : k ≤ T.length) (hf : ∀ e, 0 < e → e < k → ¬ own T t (i + e)) (hok : own T t (i + k)) : GapOf T t (i + 1) (max m k) := by
  refine ⟨by have := h.1; omega, fun a ha g => ?_, Or.inr ?_⟩
  · rcases Nat.lt_or_ge a i with hl | hl
    · obtain ⟨b, b1, b2, b3⟩ := h.2.1 a hl g
      exact ⟨b, b1, by omega, b3⟩
    · obtain rfl : a = i := by omega
      exact ⟨a + k, by omega, by omega, hok⟩
  · rcases Nat.lt_or_ge k m with g1 | g1
    · rcases h.2.2 with h8 | ⟨a, a1, a2⟩
      · omega
      · exact ⟨a, a1, fun b b1 b2 => a2 b b1 (by omega)⟩
    · refine ⟨i, ho, fun b b1 b2 g => hf (b - i) (by omega) (by omega) ?_⟩
      rw [show i + (b - i) = b by omega]
      exact g
theorem GapOf.gap {T : List (Int × Int)} {t : Int} {m : Nat} (h : GapOf T t T.length m) (hp : 0 < C T t T.length) : IsGap T t m := by
  obtain ⟨x, hx, hox⟩ := C_pos hp
  obtain ⟨b, b1, b2, b3⟩ := h.2.1 x hx hox
  refine ⟨by omega, fun a ha => ?_, ?_⟩
  · obtain ⟨c, c1, c2, c3⟩ := h.2.1 (a % T.length) (Nat.mod_lt a (by omega)) ((own_mod T t a).2 ha)
    have hd := Nat.div_add_mod a T.length
    rw [Nat.mul_comm] at hd
    exact ⟨a / T.length * T.length + c, by omega, by omega, (own_mul T t _ _).2 c3⟩
  · rcases h.2.2 with h8 | g
    · omega
    · exact g

/-- From i on n ticks are free, and then comes an own one. -/
def Free (T : List (Int × Int)) (t : Int) (i n : Nat) : Prop := (∀ e, e < n → ¬ own T t (i + e)) ∧ own T t (i + n)
/-- The widest of the free ticks from those ahead of i on. -/
def Wid (T : List (Int × Int)) (t : Int) (i m : Nat) : Prop := m ≤ T.length ∧ (∀ a, a < i → ∃ n, n ≤ m ∧ Free T t a n) ∧ (m = 0 ∨ ∃ a, Free T t a m)
theorem Wid.start (T : List (Int × Int)) (t : Int) : Wid T t 0 0 := ⟨Nat.zero_le _, fun a ha => by omega, Or.inl rfl⟩
theorem Wid.next {T : List (Int × Int)} {t : Int} {i m n : Nat} (h : Wid T t i m) (hn : n ≤ T.length) (hf : Free T t i n) : Wid T t (i + 1) (max m n) := by
  refine ⟨by have := h.1; omega, fun a ha => ?_, Or.inr ?_⟩
  · rcases Nat.lt_or_ge a i with hl | hl
    · obtain ⟨c, c1, c2⟩ := h.2.1 a hl
      exact ⟨c, by omega, c2⟩
    · obtain rfl : a = i := by omega
      exact ⟨n, by omega, hf⟩
  · rcases Nat.lt_or_ge n m with g | g
    · rw [Nat.max_eq_left (by omega)]
      rcases h.2.2 with h0 | h0
      · omega
      · exact h0
    · rw [Nat.max_eq_right g]
      exact ⟨i, hf⟩
theorem Wid.gap {T : List (Int × Int)} {t : Int} {m g : Nat} (h : Wid T t T.length m) (hg : IsGap T t g) (hn : 0 < T.length) : m + 1 = g := by
  have h1 : m < g := by
    rcases h.2.2 with h0 | ⟨a, ha, _⟩
    · have := hg.pos; omega
    · obtain ⟨i, hi, ho⟩ := hg.within a
      rcases Nat.lt_or_ge i m with hl | hl
      · exact absurd ho (ha i hl)
      · omega
  have h2 : g ≤ m + 1 := by
    obtain ⟨a, ho, hf⟩ := hg.wide
    obtain ⟨n, n1, n2, n3⟩ := h.2.1 ((a + 1) % T.length) (Nat.mod_lt _ hn)
    rcases Nat.lt_or_ge (a + 1 + n) (a + g) with hl | hl
    · refine absurd ?_ (hf (a + 1 + n) (by omega) hl)
      have hd := Nat.div_add_mod (a + 1) T.length
      rw [Nat.mul_comm] at hd
      rw [show a + 1 + n = (a + 1) / T.length * T.length + ((a + 1) % T.length + n) by omega]
      exact (own_mul T t _ _).2 n3
    · omega
  omega

end Go.Proofs.Ytidalhdhaagpaaa
