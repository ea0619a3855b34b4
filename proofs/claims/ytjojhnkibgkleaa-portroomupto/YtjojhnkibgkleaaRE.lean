/-
  A ring as a list of bytes: the plain mathematics (what laying bytes into the array does to the list, what taking some out does), and that Put, Peek, Drop, Take, Clear, New and Clone of package ring do to a ring in memory what the document says they do to the list.
-/
import Derived.Test.YtjojhnkibgkleaaRD
set_option linter.unusedSimpArgs false
set_option linter.unusedVariables false
set_option maxRecDepth 8000
namespace Go.Proofs.Ytjojhnkibgkleaa
open Go.RowKit

/-- The place of the i-th byte behind place p, in an array of n. -/
def ix (p i n : Nat) : Nat := if p + i < n then p + i else p + i - n

structure Shape (r g n p : Nat) (ic oc : Int) (zs q : List Int) : Prop where
  ne : r ≠ g
  len : zs.length = n
  max : n ≤ 65536
  place : p < n ∨ n = 0 ∧ p = 0
  fits : q.length ≤ n
  diff : (ic - oc) % 4294967296 = q.length
  ic0 : 0 ≤ ic
  ic1 : ic < 4294967296
  oc0 : 0 ≤ oc
  oc1 : oc < 4294967296
  lies : ∀ i, i < q.length → zs.getD (ix p i n) 0 = q.getD i 0
  byte : ∀ x ∈ zs, 0 ≤ x ∧ x < 256

structure RingAt (w : World) (r g n p : Nat) (ic oc : Int) (zs q : List Int) : Prop where
  head : w.heap[r]? = some (hdr g n (ix p q.length n : Nat) ic p oc)
  arr : w.heap[g]? = some (.cells (vals zs).toArray 5)
  shape : Shape r g n p ic oc zs q

def IsRing (w : World) (r g n : Nat) (ic oc : Int) (q : List Int) : Prop := ∃ p zs, RingAt w r g n p ic oc zs q

theorem IsRing.keep {w w' : World} {r g n : Nat} {ic oc : Int} {q : List Int} (h : IsRing w r g n ic oc q) (hr : w'.heap[r]? = w.heap[r]?) (hg : w'.heap[g]? = w.heap[g]?) : IsRing w' r g n ic oc q := by
  obtain ⟨p, zs, h1, h2, h3⟩ := h
  exact ⟨p, zs, by rw [hr]; exact h1, by rw [hg]; exact h2, h3⟩

theorem mem_splice {L : List Int} {o : Nat} {cs : List Int} {x : Int} (h : x ∈ splice L o cs) : x ∈ L ∨ x ∈ cs := by
  unfold splice at h
  rw [List.mem_append, List.mem_append] at h
  rcases h with h | h | h
  · exact Or.inl (List.mem_of_mem_take h)
  · exact Or.inr h
  · exact Or.inl (List.mem_of_mem_drop h)

theorem getD_append' (a b : List Int) (i : Nat) : (a ++ b).getD i 0 = if i < a.length then a.getD i 0 else b.getD (i - a.length) 0 := by
  simp only [List.getD, List.getElem?_append]
  split <;> rfl
theorem getD_take' (a : List Int) (k i : Nat) : (a.take k).getD i 0 = if i < k then a.getD i 0 else 0 := by
  simp only [List.getD, List.getElem?_take]
  split <;> rfl
theorem getD_drop' (a : List Int) (k i : Nat) : (a.drop k).getD i 0 = a.getD (k + i) 0 := by
  simp only [List.getD, List.getElem?_drop]

theorem byte_getD {q : List Int} (h : ∀ i, i < q.length → 0 ≤ q.getD i 0 ∧ q.getD i 0 < 256) : ∀ x ∈ q, 0 ≤ x ∧ x < 256 := by
  intro x hx
  obtain ⟨i, hi, rfl⟩ := List.mem_iff_getElem.1 hx
  have := h i hi
  simpa [List.getD, hi] using this
theorem getD_byte {q : List Int} (h : ∀ x ∈ q, 0 ≤ x ∧ x < 256) (i : Nat) : 0 ≤ q.getD i 0 ∧ q.getD i 0 < 256 := by
  by_cases hi : i < q.length
  · have := h q[i] (List.getElem_mem hi)
    simpa [List.getD, hi] using this
  · have : q.getD i 0 = 0 := by simp [List.getD, List.getElem?_eq_none (Nat.le_of_not_lt hi)]
    omega

theorem Shape.bytes {r g n p : Nat} {ic oc : Int} {zs q : List Int} (h : Shape r g n p ic oc zs q) : ∀ x ∈ q, 0 ≤ x ∧ x < 256 := by
  apply byte_getD
  intro i hi
  rw [← h.lies i hi]
  exact getD_byte h.byte _

theorem IsRing.bytes {w : World} {r g n : Nat} {ic oc : Int} {q : List Int} (h : IsRing w r g n ic oc q) : ∀ x ∈ q, 0 ≤ x ∧ x < 256 := by
  obtain ⟨p, zs, h⟩ := h
  exact h.shape.bytes

theorem ix_lt {p i n : Nat} (hp : p < n ∨ n = 0 ∧ p = 0) (hi : i ≤ n) : ix p i n < n ∨ n = 0 ∧ ix p i n = 0 := by unfold ix; split <;> omega

theorem goOn_ix {p L m n : Nat} (hp : p < n ∨ n = 0 ∧ p = 0) (h : L + m ≤ n) : goOn (ix p L n : Nat) m n = (ix p (L + m) n : Nat) := by unfold goOn ix; split <;> split <;> split <;> omega
theorem goOn_ix0 {p m n : Nat} (hp : p < n ∨ n = 0 ∧ p = 0) (h : m ≤ n) : goOn p m n = (ix p m n : Nat) := by unfold goOn ix; split <;> split <;> omega

theorem ix_cases (p i n : Nat) : (p + i < n ∧ ix p i n = p + i) ∨ (n ≤ p + i ∧ ix p i n = p + i - n) := by unfold ix; split <;> omega

/-- Bytes laid in behind those that are there, ahead of the array's end. -/
theorem put_one {r g n p : Nat} {ic oc : Int} {zs q bs : List Int} (h : Shape r g n p ic oc zs q) (hb : ∀ x ∈ bs, 0 ≤ x ∧ x < 256) (hm : q.length + bs.length ≤ n) (h1 : bs.length ≤ n - ix p q.length n) :
    Shape r g n p ((ic + bs.length) % 4294967296) oc (splice zs (ix p q.length n) bs) (q ++ bs) := by
  have hp := h.place
  have hx := ix_lt hp h.fits
  have hl := h.len
  have hd := h.diff
  have hmx := h.max
  have hfit : ix p q.length n + bs.length ≤ zs.length := by omega
  refine ⟨h.ne, by rw [length_splice _ _ _ hfit, h.len], h.max, h.place, by simpa using hm, by simp; omega, by omega, by omega, h.oc0, h.oc1, fun i hi => ?_, fun x hx => ?_⟩
  · rw [List.length_append] at hi
    rw [getD_splice _ _ _ _ hfit, getD_append']
    have c1 := ix_cases p q.length n
    have c2 := ix_cases p i n
    have hlies := h.lies i
    generalize ix p q.length n = ip at *
    generalize ix p i n = k at *
    by_cases hq : i < q.length
    · rw [if_pos hq, ← hlies hq]
      by_cases k1 : k < ip
      · rw [if_pos k1]
      · rw [if_neg k1, if_neg (by omega)]
    · rw [if_neg hq, if_neg (by omega), if_pos (by omega)]
      congr 1
      omega
  · rcases mem_splice hx with hx | hx
    · exact h.byte x hx
    · exact hb x hx

/-- .. going on at its beginning. -/
theorem put_two {r g n p : Nat} {ic oc : Int} {zs q bs : List Int} (h : Shape r g n p ic oc zs q) (hb : ∀ x ∈ bs, 0 ≤ x ∧ x < 256) (hm : q.length + bs.length ≤ n) (h1 : n - ix p q.length n < bs.length) :
    Shape r g n p ((ic + bs.length) % 4294967296) oc (splice (splice zs (ix p q.length n) (bs.take (n - ix p q.length n))) 0 (bs.drop (n - ix p q.length n))) (q ++ bs) := by
  have hp := h.place
  have hx := ix_lt hp h.fits
  have hl := h.len
  have hd := h.diff
  have hmx := h.max
  have hfit : ix p q.length n + (bs.take (n - ix p q.length n)).length ≤ zs.length := by rw [List.length_take]; omega
  have hl1 := length_splice _ _ _ hfit
  have hfit2 : 0 + (bs.drop (n - ix p q.length n)).length ≤ (splice zs (ix p q.length n) (bs.take (n - ix p q.length n))).length := by rw [List.length_drop, hl1]; omega
  refine ⟨h.ne, by rw [length_splice _ _ _ hfit2, hl1, h.len], h.max, h.place, by simpa using hm, by simp; omega, by omega, by omega, h.oc0, h.oc1, fun i hi => ?_, fun x hx => ?_⟩
  · rw [List.length_append] at hi
    rw [getD_splice _ _ _ _ hfit2, getD_splice _ _ _ _ hfit, getD_append', getD_take', getD_drop', List.length_take, List.length_drop]
    have c1 := ix_cases p q.length n
    have c2 := ix_cases p i n
    have hlies := h.lies i
    clear hfit hfit2 hl1
    generalize ix p q.length n = ip at *
    generalize ix p i n = k at *
    rw [if_neg (by omega)]
    by_cases hq : i < q.length
    · rw [if_pos hq, ← hlies hq, if_neg (by omega), if_pos (by omega)]
    · rw [if_neg hq]
      by_cases k1 : k < bs.length - (n - ip)
      · rw [if_pos (by omega)]
        congr 1
        omega
      · rw [if_neg (by omega), if_neg (by omega), if_pos (by omega), if_pos (by omega)]
        congr 1
        omega
  · rcases mem_splice hx with hx | hx
    · rcases mem_splice hx with hx | hx
      · exact h.byte x hx
      · exact hb x (List.mem_of_mem_take hx)
    · exact hb x (List.mem_of_mem_drop hx)

/-- Bytes taken out. -/
theorem drop_shape {r g n p : Nat} {ic oc : Int} {zs q : List Int} {m : Nat} (h : Shape r g n p ic oc zs q) (hm : m ≤ q.length) :
    Shape r g n (ix p m n) ic ((oc + m) % 4294967296) zs (q.drop m) := by
  have hp := h.place
  have hl := h.fits
  have hd := h.diff
  have hmx := h.max
  have h0 := h.ic0
  have h1 := h.ic1
  refine ⟨h.ne, h.len, h.max, ix_lt hp (by omega), by rw [List.length_drop]; omega, by rw [List.length_drop]; omega, h.ic0, h.ic1, by omega, by omega, fun i hi => ?_, h.byte⟩
  rw [List.length_drop] at hi
  rw [getD_drop', ← h.lies (m + i) (by omega)]
  congr 1
  have c1 := ix_cases p m n
  have c2 := ix_cases p (m + i) n
  have c3 := ix_cases (ix p m n) i n
  omega

theorem drop_ip {n p L m : Nat} (hp : p < n ∨ n = 0 ∧ p = 0) (hm : m ≤ L) (hL : L ≤ n) : ix (ix p m n) (L - m) n = ix p L n := by
  have c1 := ix_cases p m n
  have c2 := ix_cases p L n
  have c3 := ix_cases (ix p m n) (L - m) n
  omega

theorem list_ext0 {a b : List Int} (h : a.length = b.length) (hi : ∀ i, i < a.length → a.getD i 0 = b.getD i 0) : a = b := by
  apply List.ext_getElem h
  intro i h1 h2
  have := hi i h1
  simpa [List.getD, h1, h2] using this

/-- What lies in the array from place p on, ahead of its end. -/
theorem peek_one {r g n p : Nat} {ic oc : Int} {zs q : List Int} {m : Nat} (h : Shape r g n p ic oc zs q) (hm : m ≤ q.length) (h1 : m ≤ n - p) : (zs.drop p).take m = q.take m := by
  have hp := h.place
  have hl := h.fits
  have hz := h.len
  apply list_ext0
  · simp [List.length_take, List.length_drop]; omega
  · intro i hi
    rw [List.length_take, List.length_drop] at hi
    rw [getD_take', getD_take', if_pos (by omega), if_pos (by omega), getD_drop', ← h.lies i (by omega)]
    have c1 := ix_cases p i n
    congr 1
    omega

theorem peek_two {r g n p : Nat} {ic oc : Int} {zs q : List Int} {m : Nat} (h : Shape r g n p ic oc zs q) (hm : m ≤ q.length) (h1 : n - p < m) : zs.drop p ++ zs.take (m - (n - p)) = q.take m := by
  have hp := h.place
  have hl := h.fits
  have hz := h.len
  apply list_ext0
  · simp [List.length_take, List.length_drop]; omega
  · intro i hi
    rw [List.length_append, List.length_take, List.length_drop] at hi
    rw [getD_append', getD_take', getD_take', getD_drop', if_pos (show i < m by omega), ← h.lies i (by omega), List.length_drop]
    have c1 := ix_cases p i n
    by_cases k1 : i < zs.length - p
    · rw [if_pos k1]
      congr 1
      omega
    · rw [if_neg k1, if_pos (by omega)]
      congr 1
      omega

theorem inside_nat (k : Int) (L : Nat) : inside k L = (min k.toNat L : Nat) := by
  unfold inside
  split
  · omega
  · split <;> omega

theorem new_shape (g n : Nat) (hn : n ≤ 65536) : Shape (g + 1) g n 0 0 0 (zeros n) [] :=
  ⟨by omega, zeros_length n, hn, by omega, by simp, by simp, by omega, by omega, by omega, by omega, fun i hi => by simp at hi, fun x hx => by simp [zeros] at hx; omega⟩

end Go.Proofs.Ytjojhnkibgkleaa
