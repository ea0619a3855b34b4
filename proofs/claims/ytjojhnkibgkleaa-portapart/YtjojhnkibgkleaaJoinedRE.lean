/-
  A ring as a list of bytes: the plain mathematics (what laying bytes into the array does to the list, what taking some out does), and that Put, Peek, Drop, Take, Clear, New and Clone of package ring do to a ring in memory what the document says they do to the list.; The exported calls of package ring, at a ring that New made: each does to the ring in memory what the document says of its list of bytes; The exported calls Put, Take, Clear, New and Clone of package ring, at a ring that New made: each does to the ring in memory what the document says of its list of bytes; conditions as each theorem has them.
-/
import Derived.Test.YtjojhnkibgkleaaJoinedRA
import Derived.Deep.RegionWith
import Derived.Deep.RegionHeld3
set_option linter.unusedSimpArgs false
set_option linter.unusedVariables false
set_option maxRecDepth 8000
namespace Go.Proofs.Ytjojhnkibgkleaa
open Go.RowKit

/-- The place of the i-th byte behind place p, in an array of n. -/
def ix (p i n : Nat) : Nat := if p + i < n then p + i else p + i - n

structure Shape (r g n p : Nat) (ic oc : Int) (zs q : List Int) : Prop where
  ne : r ≠ g
  len : zs.length = n
  max : n ≤ 65536
  place : p < n ∨ n = 0 ∧ p = 0
  fits : q.length ≤ n
  diff : (ic - oc) % 4294967296 = q.length
  ic0 : 0 ≤ ic
  ic1 : ic < 4294967296
  oc0 : 0 ≤ oc
  oc1 : oc < 4294967296
  lies : ∀ i, i < q.length → zs.getD (ix p i n) 0 = q.getD i 0
  byte : ∀ x ∈ zs, 0 ≤ x ∧ x < 256

structure RingAt (w : World) (r g n p : Nat) (ic oc : Int) (zs q : List Int) : Prop where
  head : w.heap[r]? = some (hdr g n (ix p q.length n : Nat) ic p oc)
  arr : w.heap[g]? = some (.cells (vals zs).toArray 5)
  shape : Shape r g n p ic oc zs q

def IsRing (w : World) (r g n : Nat) (ic oc : Int) (q : List Int) : Prop := ∃ p zs, RingAt w r g n p ic oc zs q

theorem IsRing.keep {w w' : World} {r g n : Nat} {ic oc : Int} {q : List Int} (h : IsRing w r g n ic oc q) (hr : w'.heap[r]? = w.heap[r]?) (hg : w'.heap[g]? = w.heap[g]?) : IsRing w' r g n ic oc q := by
  obtain ⟨p, zs, h1, h2, h3⟩ := h
  exact ⟨p, zs, by rw [hr]; exact h1, by rw [hg]; exact h2, h3⟩

theorem mem_splice {L : List Int} {o : Nat} {cs : List Int} {x : Int} (h : x ∈ splice L o cs) : x ∈ L ∨ x ∈ cs := by
  unfold splice at h
  rw [List.mem_append, List.mem_append] at h
  rcases h with h | h | h
  · exact Or.inl (List.mem_of_mem_take h)
  · exact Or.inr h
  · exact Or.inl (List.mem_of_mem_drop h)

theorem getD_append' (a b : List Int) (i : Nat) : (a ++ b).getD i 0 = if i < a.length then a.getD i 0 else b.getD (i - a.length) 0 := by
  simp only [List.getD, List.getElem?_append]
  split <;> rfl
theorem getD_take' (a : List Int) (k i : Nat) : (a.take k).getD i 0 = if i < k then a.getD i 0 else 0 := by
  simp only [List.getD, List.getElem?_take]
  split <;> rfl
theorem getD_drop' (a : List Int) (k i : Nat) : (a.drop k).getD i 0 = a.getD (k + i) 0 := by
  simp only [List.getD, List.getElem?_drop]

theorem byte_getD {q : List Int} (h : ∀ i, i < q.length → 0 ≤ q.getD i 0 ∧ q.getD i 0 < 256) : ∀ x ∈ q, 0 ≤ x ∧ x < 256 := by
  intro x hx
  obtain ⟨i, hi, rfl⟩ := List.mem_iff_getElem.1 hx
  have := h i hi
  simpa [List.getD, hi] using this
theorem getD_byte {q : List Int} (h : ∀ x ∈ q, 0 ≤ x ∧ x < 256) (i : Nat) : 0 ≤ q.getD i 0 ∧ q.getD i 0 < 256 := by
  by_cases hi : i < q.length
  · have := h q[i] (List.getElem_mem hi)
    simpa [List.getD, hi] using this
  · have : q.getD i 0 = 0 := by simp [List.getD, List.getElem?_eq_none (Nat.le_of_not_lt hi)]
    omega

theorem Shape.bytes {r g n p : Nat} {ic oc : Int} {zs q : List Int} (h : Shape r g n p ic oc zs q) : ∀ x ∈ q, 0 ≤ x ∧ x < 256 := by
  apply byte_getD
  intro i hi
  rw [← h.lies i hi]
  exact getD_byte h.byte _

theorem IsRing.bytes {w : World} {r g n : Nat} {ic oc : Int} {q : List Int} (h : IsRing w r g n ic oc q) : ∀ x ∈ q, 0 ≤ x ∧ x < 256 := by
  obtain ⟨p, zs, h⟩ := h
  exact h.shape.bytes

theorem ix_lt {p i n : Nat} (hp : p < n ∨ n = 0 ∧ p = 0) (hi : i ≤ n) : ix p i n < n ∨ n = 0 ∧ ix p i n = 0 := by unfold ix; split <;> omega

theorem goOn_ix {p L m n : Nat} (hp : p < n ∨ n = 0 ∧ p = 0) (h : L + m ≤ n) : goOn (ix p L n : Nat) m n = (ix p (L + m) n : Nat) := by unfold goOn ix; split <;> split <;> split <;> omega
theorem goOn_ix0 {p m n : Nat} (hp : p < n ∨ n = 0 ∧ p = 0) (h : m ≤ n) : goOn p m n = (ix p m n : Nat) := by unfold goOn ix; split <;> split <;> omega

theorem ix_cases (p i n : Nat) : (p + i < n ∧ ix p i n = p + i) ∨ (n ≤ p + i ∧ ix p i n = p + i - n) := by unfold ix; split <;> omega

/-- Bytes laid in behind those that are there, ahead of the array's end. -/
theorem put_one {r g n p : Nat} {ic oc : Int} {zs q bs : List Int} (h : Shape r g n p ic oc zs q) (hb : ∀ x ∈ bs, 0 ≤ x ∧ x < 256) (hm : q.length + bs.length ≤ n) (h1 : bs.length ≤ n - ix p q.length n) :
    Shape r g n p ((ic + bs.length) % 4294967296) oc (splice zs (ix p q.length n) bs) (q ++ bs) := by
  have hp := h.place
  have hx := ix_lt hp h.fits
  have hl := h.len
  have hd := h.diff
  have hmx := h.max
  have hfit : ix p q.length n + bs.length ≤ zs.length := by omega
  refine ⟨h.ne, by rw [length_splice _ _ _ hfit, h.len], h.max, h.place, by simpa using hm, by simp; omega, by omega, by omega, h.oc0, h.oc1, fun i hi => ?_, fun x hx => ?_⟩
  · rw [List.length_append] at hi
    rw [getD_splice _ _ _ _ hfit, getD_append']
    have c1 := ix_cases p q.length n
    have c2 := ix_cases p i n
    have hlies := h.lies i
    generalize ix p q.length n = ip at *
    generalize ix p i n = k at *
    by_cases hq : i < q.length
    · rw [if_pos hq, ← hlies hq]
      by_cases k1 : k < ip
      · rw [if_pos k1]
      · rw [if_neg k1, if_neg (by omega)]
    · rw [if_neg hq, if_neg (by omega), if_pos (by omega)]
      congr 1
      omega
  · rcases mem_splice hx with hx | hx
    · exact h.byte x hx
    · exact hb x hx

/-- .. going on at its beginning. -/
theorem put_two {r g n p : Nat} {ic oc : Int} {zs q bs : List Int} (h : Shape r g n p ic oc zs q) (hb : ∀ x ∈ bs, 0 ≤ x ∧ x < 256) (hm : q.length + bs.length ≤ n) (h1 : n - ix p q.length n < bs.length) :
    Shape r g n p ((ic + bs.length) % 4294967296) oc (splice (splice zs (ix p q.length n) (bs.take (n - ix p q.length n))) 0 (bs.drop (n - ix p q.length n))) (q ++ bs) := by
  have hp := h.place
  have hx := ix_lt hp h.fits
  have hl := h.len
  have hd := h.diff
  have hmx := h.max
  have hfit : ix p q.length n + (bs.take (n - ix p q.length n)).length ≤ zs.length := by rw [List.length_take]; omega
  have hl1 := length_splice _ _ _ hfit
  have hfit2 : 0 + (bs.drop (n - ix p q.length n)).length ≤ (splice zs (ix p q.length n) (bs.take (n - ix p q.length n))).length := by rw [List.length_drop, hl1]; omega
  refine ⟨h.ne, by rw [length_splice _ _ _ hfit2, hl1, h.len], h.max, h.place, by simpa using hm, by simp; omega, by omega, by omega, h.oc0, h.oc1, fun i hi => ?_, fun x hx => ?_⟩
  · rw [List.length_append] at hi
    rw [getD_splice _ _ _ _ hfit2, getD_splice _ _ _ _ hfit, getD_append', getD_take', getD_drop', List.length_take, List.length_drop]
    have c1 := ix_cases p q.length n
    have c2 := ix_cases p i n
    have hlies := h.lies i
    clear hfit hfit2 hl1
    generalize ix p q.length n = ip at *
    generalize ix p i n = k at *
    rw [if_neg (by omega)]
    by_cases hq : i < q.length
    · rw [if_pos hq, ← hlies hq, if_neg (by omega), if_pos (by omega)]
    · rw [if_neg hq]
      by_cases k1 : k < bs.length - (n - ip)
      · rw [if_pos (by omega)]
        congr 1
        omega
      · rw [if_neg (by omega), if_neg (by omega), if_pos (by omega), if_pos (by omega)]
        congr 1
        omega
  · rcases mem_splice hx with hx | hx
    · rcases mem_splice hx with hx | hx
      · exact h.byte x hx
      · exact hb x (List.mem_of_mem_take hx)
    · exact hb x (List.mem_of_mem_drop hx)

/-- Bytes taken out. -/
theorem drop_shape {r g n p : Nat} {ic oc : Int} {zs q : List Int} {m : Nat} (h : Shape r g n p ic oc zs q) (hm : m ≤ q.length) :
    Shape r g n (ix p m n) ic ((oc + m) % 4294967296) zs (q.drop m) := by
  have hp := h.place
  have hl := h.fits
  have hd := h.diff
  have hmx := h.max
  have h0 := h.ic0
  have h1 := h.ic1
  refine ⟨h.ne, h.len, h.max, ix_lt hp (by omega), by rw [List.length_drop]; omega, by rw [List.length_drop]; omega, h.ic0, h.ic1, by omega, by omega, fun i hi => ?_, h.byte⟩
  rw [List.length_drop] at hi
  rw [getD_drop', ← h.lies (m + i) (by omega)]
  congr 1
  have c1 := ix_cases p m n
  have c2 := ix_cases p (m + i) n
  have c3 := ix_cases (ix p m n) i n
  omega

theorem drop_ip {n p L m : Nat} (hp : p < n ∨ n = 0 ∧ p = 0) (hm : m ≤ L) (hL : L ≤ n) : ix (ix p m n) (L - m) n = ix p L n := by
  have c1 := ix_cases p m n
  have c2 := ix_cases p L n
  have c3 := ix_cases (ix p m n) (L - m) n
  omega

theorem list_ext0 {a b : List Int} (h : a.length = b.length) (hi : ∀ i, i < a.length → a.getD i 0 = b.getD i 0) : a = b := by
  apply List.ext_getElem h
  intro i h1 h2
  have := hi i h1
  simpa [List.getD, h1, h2] using this

/-- What lies in the array from place p on, ahead of its end. -/
theorem peek_one {r g n p : Nat} {ic oc : Int} {zs q : List Int} {m : Nat} (h : Shape r g n p ic oc zs q) (hm : m ≤ q.length) (h1 : m ≤ n - p) : (zs.drop p).take m = q.take m := by
  have hp := h.place
  have hl := h.fits
  have hz := h.len
  apply list_ext0
  · simp [List.length_take, List.length_drop]; omega
  · intro i hi
    rw [List.length_take, List.length_drop] at hi
    rw [getD_take', getD_take', if_pos (by omega), if_pos (by omega), getD_drop', ← h.lies i (by omega)]
    have c1 := ix_cases p i n
    congr 1
    omega

theorem peek_two {r g n p : Nat} {ic oc : Int} {zs q : List Int} {m : Nat} (h : Shape r g n p ic oc zs q) (hm : m ≤ q.length) (h1 : n - p < m) : zs.drop p ++ zs.take (m - (n - p)) = q.take m := by
  have hp := h.place
  have hl := h.fits
  have hz := h.len
  apply list_ext0
  · simp [List.length_take, List.length_drop]; omega
  · intro i hi
    rw [List.length_append, List.length_take, List.length_drop] at hi
    rw [getD_append', getD_take', getD_take', getD_drop', if_pos (show i < m by omega), ← h.lies i (by omega), List.length_drop]
    have c1 := ix_cases p i n
    by_cases k1 : i < zs.length - p
    · rw [if_pos k1]
      congr 1
      omega
    · rw [if_neg k1, if_pos (by omega)]
      congr 1
      omega

theorem inside_nat (k : Int) (L : Nat) : inside k L = (min k.toNat L : Nat) := by
  unfold inside
  split
  · omega
  · split <;> omega

theorem new_shape (g n : Nat) (hn : n ≤ 65536) : Shape (g + 1) g n 0 0 0 (zeros n) [] :=
  ⟨by omega, zeros_length n, hn, by omega, by simp, by simp, by omega, by omega, by omega, by omega, fun i hi => by simp at hi, fun x hx => by simp [zeros] at hx; omega⟩

end Go.Proofs.Ytjojhnkibgkleaa

set_option linter.unusedSimpArgs false
set_option linter.unusedVariables false
set_option maxRecDepth 8000
namespace Go.Proofs.Ytjojhnkibgkleaa
open Go.RowKit

set_option maxHeartbeats 1000000 in
theorem drop_ring (r g n : Nat) (ic oc k : Int) (q : List Int) (w : World) (h : IsRing w r g n ic oc q) :
    Calls Try.prog 81 #[.pointer (some ⟨r, 0, none⟩), .int .i64 k] w fun e w' => e = .returned (.int .i64 (min k.toNat q.length : Nat)) ∧
      IsRing w' r g n ic ((oc + (min k.toNat q.length : Nat)) % 4294967296) (q.drop (min k.toNat q.length)) ∧ Kept r g w w' := by
  obtain ⟨p, zs, h⟩ := h
  obtain ⟨h0, h1, h2, h3, h4, h5⟩ := hdr_cells h.head
  have hmx := h.shape.max
  have hft := h.shape.fits
  have hpl := h.shape.place
  have H := hide h
  clear h
  obtain ⟨m, hm⟩ : ∃ m, m = min k.toNat q.length := ⟨_, rfl⟩
  rw [← hm]
  have hin : inside k q.length = (m : Nat) := by rw [inside_nat, hm]
  have hmq : m ≤ q.length := by omega
  have HI := hide hin
  clear hm hin
  go_enter Try.func81, Try.ntmps81
  go_wp2_with fail
  refine (isMade_at r true _ h0).mono ?_
  rintro e w1 ⟨rfl, rfl⟩
  go_wp2_with fail
  refine (len_at r g n _ ic p oc q.length _ H.out.head H.out.shape.diff).mono ?_
  rintro e w1 ⟨rfl, k1, rfl⟩
  go_wp2_with fail
  refine (within_any k q.length _).mono ?_
  rintro e w1 ⟨rfl, rfl⟩
  rw [HI.out]
  go_wp2_with fail
  go_region_with (go_at_call 95; refine (advance_out r g n (ix p q.length n : Nat) ic p oc m _ ?_ ?_ ?_ hmx ?_ ?_).mono ?_; exact H.out.head; omega; omega; omega; omega; rintro e w2 ⟨rfl, hb2, hk2⟩; have HB2 := hide hb2; have HK2 := hide hk2; clear hb2 hk2)
  go_wp2
  go_ret
  have hb2 := HB2.out
  rw [goOn_ix0 hpl (by omega)] at hb2
  exact ⟨rfl, ⟨ix p m n, zs, by rw [List.length_drop, drop_ip hpl hmq hft]; exact hb2, HK2.out.of_drewN.at_ H.out.arr (Ne.symm H.out.shape.ne) (Ne.symm H.out.shape.ne), drop_shape H.out.shape hmq⟩, HK2.out.of_drewN.wide (Or.inl rfl)⟩

/-- What Peek hands out lies in a new block. -/
def Fresh (w w' : World) (l : List Int) : Prop := w'.heap[w.heap.size]? = some (.cells (vals l).toArray 5) ∧ Below w.heap.size w w'

theorem Fresh.of_drewN {w w' : World} {k : Nat} {l : List Int} (h : Fresh (w.drewN k) w' l) : Fresh w w' l := ⟨h.1, ⟨h.2.os, h.2.tape, h.2.output, h.2.size, h.2.block⟩⟩

theorem read_ring (r g n p m : Nat) (ic oc : Int) (zs q : List Int) (w : World) (h : RingAt w r g n p ic oc zs q) (hm : m ≤ q.length) :
    Calls Try.prog 90 #[.pointer (some ⟨r, 4, none⟩), .slice (some ⟨g, 0, none⟩) n n, .int .i64 m] w fun e w' => e = .returned (.slice (some ⟨w.heap.size, 0, none⟩) m m) ∧ Fresh w w' (q.take m) := by
  have hc := (hdr_cells h.head).2.2.2.2.1
  have hpl := h.shape.place
  have hft := h.shape.fits
  by_cases h1 : m ≤ n - p
  · refine (read_one r g n p m zs w hc h.arr h.shape.len h.shape.max hpl h1).mono ?_
    rintro e w' ⟨he, ha, hb⟩
    rw [peek_one h.shape hm h1] at ha
    exact ⟨he, ha, hb⟩
  · refine (read_two r g n p m zs w hc h.arr h.shape.len h.shape.max (by omega) (by omega) (by omega)).mono ?_
    rintro e w' ⟨he, ha, hb⟩
    rw [peek_two h.shape hm (by omega)] at ha
    exact ⟨he, ha, hb⟩

set_option maxHeartbeats 1000000 in
theorem peek_ring (r g n : Nat) (ic oc k : Int) (q : List Int) (w : World) (h : IsRing w r g n ic oc q) :
    Calls Try.prog 69 #[.pointer (some ⟨r, 0, none⟩), .int .i64 k] w fun e w' => e = .returned (.slice (some ⟨w.heap.size, 0, none⟩) (min k.toNat q.length) (min k.toNat q.length)) ∧ Fresh w w' (q.take (min k.toNat q.length)) := by
  obtain ⟨p, zs, h⟩ := h
  obtain ⟨h0, h1, h2, h3, h4, h5⟩ := hdr_cells h.head
  have hlt := lt_of_some h.head
  have H := hide h
  clear h
  obtain ⟨m, hm⟩ : ∃ m, m = min k.toNat q.length := ⟨_, rfl⟩
  rw [← hm]
  have hin : inside k q.length = (m : Nat) := by rw [inside_nat, hm]
  have hmq : m ≤ q.length := by omega
  have HI := hide hin
  clear hm hin
  go_enter Try.func69, Try.ntmps69
  go_wp2_with fail
  refine (isMade_at r true _ h0).mono ?_
  rintro e w1 ⟨rfl, rfl⟩
  go_wp2_with fail
  go_region_held3 (fun w' => w'.cell? ⟨r, 1, none⟩ = some (.slice (some ⟨g, 0, none⟩) n n)) (go_keep) (first
    | (go_at_call 68; refine (len_at r g n (ix p q.length n : Nat) ic p oc q.length _ ?_ H.out.shape.diff).mono ?_; exact H.out.head; rintro e w1 ⟨rfl, k1, rfl⟩)
    | (go_at_call 91; refine (within_any k q.length _).mono ?_; rintro e w1 ⟨rfl, rfl⟩; rw [HI.out])
    | (go_at_call 90; refine (read_ring r g n p m ic oc zs q _ ?_ hmq).mono ?_; exact ⟨H.out.head, H.out.arr, H.out.shape⟩; rintro e w2 ⟨rfl, hf2⟩; have hc2 : w2.cell? ⟨r, 1, none⟩ = some (.slice (some ⟨g, 0, none⟩) n n) := (hf2.2.cell (p := ⟨r, 1, none⟩) hlt).trans h1; have HF2 := hide hf2; clear hf2))
  all_goals
    go_wp2
    go_ret
    exact ⟨rfl, HF2.out.of_drewN⟩

end Go.Proofs.Ytjojhnkibgkleaa

set_option linter.unusedSimpArgs false
set_option linter.unusedVariables false
set_option maxRecDepth 8000
namespace Go.Proofs.Ytjojhnkibgkleaa
open Go.RowKit

theorem Src.take {w : World} {a : Option Addr} {len cap : Nat} {bs : List Int} (h : Src w a len cap bs) {m : Nat} (hm : m ≤ len) : Src w a m cap (bs.take m) := by
  have hl := h.hlen
  have hc := h.hcap
  refine ⟨by rw [List.length_take]; omega, by omega, h.hmax, h.nil, fun h0 => ?_, fun x hx => h.byte x (List.mem_of_mem_take hx)⟩
  obtain ⟨b, o, e, hi⟩ := h.lies (by omega)
  refine ⟨b, o, e, fun i hi' => ?_⟩
  rw [hi i (by omega), getD_take', if_pos (by omega)]

theorem Src.keep {w w' : World} {a : Option Addr} {len cap : Nat} {bs : List Int} (h : Src w a len cap bs) (hk : ∀ b o, a = some ⟨b, o, none⟩ → 0 < len → w'.heap[b]? = w.heap[b]?) : Src w' a len cap bs := by
  refine ⟨h.hlen, h.hcap, h.hmax, h.nil, fun h0 => ?_, h.byte⟩
  obtain ⟨b, o, e, hi⟩ := h.lies h0
  refine ⟨b, o, e, fun i hi' => ?_⟩
  rw [World.cell?_of_block (w := w) (hk b o e h0)]
  exact hi i hi'

theorem Src.drewN {w : World} {a : Option Addr} {len cap : Nat} {bs : List Int} (h : Src w a len cap bs) (k : Nat) : Src (w.drewN k) a len cap bs := h.keep fun _ _ _ _ => rfl

theorem write_ring (r g n p : Nat) (ic oc : Int) (zs q : List Int) (a : Option Addr) (len cap : Nat) (bs : List Int) (w : World) (h : RingAt w r g n p ic oc zs q) (hs : Src w a len cap bs) (hm : q.length + len ≤ n)
    (hap : ∀ b o, a = some ⟨b, o, none⟩ → 0 < len → b ≠ g) :
    Calls Try.prog 93 #[.pointer (some ⟨r, 2, none⟩), .slice (some ⟨g, 0, none⟩) n n, .slice a len cap] w fun e w' => e = .returned (.tuple #[]) ∧ IsRing w' r g n ((ic + len) % 4294967296) oc (q ++ bs) ∧ Kept r g w w' := by
  have hpl := h.shape.place
  have hft := h.shape.fits
  have hl := hs.hlen
  have hx := ix_lt hpl hft
  by_cases h1 : len ≤ n - ix p q.length n
  · refine (write_one r g n (ix p q.length n) ic p oc zs a len cap bs w h.head h.arr h.shape.ne h.shape.len h.shape.max hx hs h1).mono ?_
    rintro e w' ⟨he, hb, hg, hk⟩
    rw [goOn_ix hpl hm] at hb
    have hsh := put_one h.shape hs.byte (by omega) (by omega)
    rw [hl] at hsh
    exact ⟨he, ⟨p, _, by rw [List.length_append, hl]; exact hb, hg, hsh⟩, hk⟩
  · refine (write_two r g n (ix p q.length n) ic p oc zs a len cap bs w h.head h.arr h.shape.ne h.shape.len h.shape.max (by omega) hs (by omega) (by omega) (fun b o e => hap b o e (by omega))).mono ?_
    rintro e w' ⟨he, hb, hg, hk⟩
    rw [goOn_ix hpl hm] at hb
    have hsh := put_two h.shape hs.byte (by omega) (by omega)
    rw [hl] at hsh
    exact ⟨he, ⟨p, _, by rw [List.length_append, hl]; exact hb, hg, hsh⟩, hk⟩

theorem IsRing.cell1 {w : World} {r g n : Nat} {ic oc : Int} {q : List Int} (h : IsRing w r g n ic oc q) : w.cell? ⟨r, 1, none⟩ = some (.slice (some ⟨g, 0, none⟩) n n) := by
  obtain ⟨p, zs, h⟩ := h
  exact (hdr_cells h.head).2.1

set_option maxHeartbeats 1000000 in
theorem put_ring (r g n : Nat) (ic oc : Int) (q : List Int) (a : Option Addr) (len cap : Nat) (bs : List Int) (w : World) (h : IsRing w r g n ic oc q) (hs : Src w a len cap bs) (hap : ∀ b o, a = some ⟨b, o, none⟩ → 0 < len → b ≠ g) :
    Calls Try.prog 79 #[.pointer (some ⟨r, 0, none⟩), .slice a len cap] w fun e w' => e = .returned (.int .i64 (min len (n - q.length) : Nat)) ∧
      IsRing w' r g n ((ic + (min len (n - q.length) : Nat)) % 4294967296) oc (q ++ bs.take (min len (n - q.length))) ∧ Kept r g w w' := by
  obtain ⟨p, zs, h⟩ := h
  obtain ⟨h0, h1, h2, h3, h4, h5⟩ := hdr_cells h.head
  have hlt := lt_of_some h.head
  have hmx := h.shape.max
  have hft := h.shape.fits
  have hlc := hs.hcap
  obtain ⟨m, hm⟩ : ∃ m, m = min len (n - q.length) := ⟨_, rfl⟩
  rw [← hm]
  have hin : inside len ((n : Int) - (q.length : Nat)) = (m : Nat) := by rw [← Int.ofNat_sub hft, inside_nat, hm]; simp
  have hml : m ≤ len := by omega
  have hmn : q.length + m ≤ n := by omega
  have hb1 : (0 : Int) ≤ (m : Int) := by omega
  have hb2 : (m : Int) ≤ (cap : Int) := by omega
  have HI := hide hin
  have H := hide h
  have HS := hide hs
  have HA := hide hap
  clear hm hin h hs hap
  go_enter Try.func79, Try.ntmps79
  go_wp2_with fail
  refine (isMade_at r true _ h0).mono ?_
  rintro e w1 ⟨rfl, rfl⟩
  go_wp2_with fail
  refine (free_at r g n _ ic p oc q.length _ H.out.head H.out.shape.diff hmx).mono ?_
  rintro e w1 ⟨rfl, k1, rfl⟩
  go_wp2_with fail
  refine (within_any _ _ _).mono ?_
  rintro e w1 ⟨rfl, rfl⟩
  rw [HI.out]
  go_wp2_with fail
  go_region_held3 (fun w' => w'.cell? ⟨r, 1, none⟩ = some (.slice (some ⟨g, 0, none⟩) n n)) (go_keep) (first
    | (go_at_call 93; refine (write_ring r g n p ic oc zs q a m cap (bs.take m) _ ?_ ?_ hmn (fun b o e h0 => HA.out b o e (Nat.lt_of_lt_of_le h0 hml))).mono ?_; exact ⟨H.out.head, H.out.arr, H.out.shape⟩; exact (HS.out.take hml).drewN _; rintro e w2 ⟨rfl, hf2, hk2⟩; have hc2 := hf2.cell1; have HF2 := hide hf2; have HK2 := hide hk2; clear hf2 hk2))
  all_goals
    go_wp2
    go_ret
    exact ⟨rfl, HF2.out, HK2.out.of_drewN⟩

set_option maxHeartbeats 1000000 in
theorem take_ring (r g n : Nat) (ic oc k : Int) (q : List Int) (w : World) (h : IsRing w r g n ic oc q) :
    Calls Try.prog 50 #[.pointer (some ⟨r, 0, none⟩), .int .i64 k] w fun e w' => e = .returned (.slice (some ⟨w.heap.size, 0, none⟩) (min k.toNat q.length) (min k.toNat q.length)) ∧ w'.heap[w.heap.size]? = some (.cells (vals (q.take (min k.toNat q.length))).toArray 5) ∧
      IsRing w' r g n ic ((oc + (min k.toNat q.length : Nat)) % 4294967296) (q.drop (min k.toNat q.length)) ∧ Kept r g w w' := by
  have H := hide h
  have hrl : r < w.heap.size := by obtain ⟨p, zs, h⟩ := h; exact lt_of_some h.head
  have hgl : g < w.heap.size := by obtain ⟨p, zs, h⟩ := h; exact lt_of_some h.arr
  clear h
  obtain ⟨m, hm⟩ : ∃ m, m = min k.toNat q.length := ⟨_, rfl⟩
  have hmq : m ≤ q.length := by omega
  have hpk := fun W => peek_ring r g n ic oc k q W
  rw [← hm] at hpk ⊢
  have HP := hide hpk
  clear hpk hm
  go_enter Try.func50, Try.ntmps50
  go_wp2_with fail
  refine (HP.out _ H.out).mono ?_
  rintro e w1 ⟨rfl, hf1⟩
  have HF1 := hide hf1
  clear hf1
  go_wp2_with fail
  have H1 : IsRing w1 r g n ic oc q := H.out.keep (HF1.out.2.block r hrl) (HF1.out.2.block g hgl)
  have hdr1 := drop_ring r g n ic oc m q w1 H1
  rw [Int.toNat_natCast, show min m q.length = m by omega] at hdr1
  refine hdr1.mono ?_
  clear hdr1 H1
  rintro e w2 ⟨rfl, hr2, hk2⟩
  have HR2 := hide hr2
  have HK2 := hide hk2
  clear hr2 hk2
  go_wp2_with fail
  go_ret
  exact ⟨rfl, HK2.out.at_ HF1.out.1 (by omega) (by omega), HR2.out, (Kept.of_below HF1.out.2).trans HK2.out⟩

theorem IsRing.size_lt {w : World} {r g n : Nat} {ic oc : Int} {q : List Int} (h : IsRing w r g n ic oc q) : r < w.heap.size ∧ g < w.heap.size := by
  obtain ⟨p, zs, h⟩ := h
  exact ⟨lt_of_some h.head, lt_of_some h.arr⟩

set_option maxHeartbeats 1000000 in
theorem clear_ring (r g n : Nat) (ic oc : Int) (q : List Int) (w : World) (h : IsRing w r g n ic oc q) :
    Calls Try.prog 82 #[.pointer (some ⟨r, 0, none⟩)] w fun e w' => e = .returned (.tuple #[]) ∧ IsRing w' r g n ic ((oc + q.length) % 4294967296) [] ∧ Kept r g w w' := by
  obtain ⟨p, zs, h⟩ := h
  have H := hide h
  clear h
  go_enter Try.func82, Try.ntmps82
  go_wp2_with fail
  refine (len_at r g n _ ic p oc q.length _ H.out.head H.out.shape.diff).mono ?_
  rintro e w1 ⟨rfl, k1, rfl⟩
  go_wp2_with fail
  have hdr1 := drop_ring r g n ic oc q.length q (w.drewN k1) ⟨p, zs, H.out.head, H.out.arr, H.out.shape⟩
  rw [Int.toNat_natCast, show min q.length q.length = q.length by omega, List.drop_length] at hdr1
  refine hdr1.mono ?_
  clear hdr1
  rintro e w2 ⟨rfl, hr2, hk2⟩
  have HR2 := hide hr2
  have HK2 := hide hk2
  clear hr2 hk2
  go_wp2_with fail
  go_end0
  exact ⟨rfl, HR2.out, HK2.out.of_drewN⟩

theorem new_ring (n : Nat) (w : World) (h : n ≤ 65536) :
    Calls Try.prog 39 #[.int .i64 n] w fun e w' => e = .returned (.tuple #[.pointer (some ⟨w.heap.size + 1, 0, none⟩), .int .i64 0]) ∧ IsRing w' (w.heap.size + 1) w.heap.size n 0 0 [] ∧ Below w.heap.size w w' := by
  refine (new_good n w h).mono ?_
  rintro e w' ⟨he, h1, h2, h3⟩
  have e0 : ix 0 0 n = 0 := by unfold ix; split <;> omega
  exact ⟨he, ⟨0, zeros n, by simpa [e0] using h2, h1, new_shape _ n h⟩, h3⟩

theorem clone_ring (r g n : Nat) (ic oc : Int) (q : List Int) (w : World) (h : IsRing w r g n ic oc q) :
    Calls Try.prog 75 #[.pointer (some ⟨r, 0, none⟩)] w fun e w' => e = .returned (.pointer (some ⟨w.heap.size, 0, none⟩)) ∧ IsRing w' w.heap.size (w.heap.size + 1) n ic oc q ∧ Below w.heap.size w w' := by
  obtain ⟨p, zs, h⟩ := h
  refine (clone_at r g n _ ic p oc zs w h.head h.arr h.shape.len h.shape.max).mono ?_
  rintro e w' ⟨he, h1, h2, h3⟩
  have s := h.shape
  exact ⟨he, ⟨p, zs, h2, h1, by omega, s.len, s.max, s.place, s.fits, s.diff, s.ic0, s.ic1, s.oc0, s.oc1, s.lies, s.byte⟩, h3⟩

theorem len_ring (r g n : Nat) (ic oc : Int) (q : List Int) (w : World) (h : IsRing w r g n ic oc q) :
    Calls Try.prog 68 #[.pointer (some ⟨r, 0, none⟩)] w fun e w' => e = .returned (.int .i64 q.length) ∧ ∃ n, w' = w.drewN n := by
  obtain ⟨p, zs, h⟩ := h
  exact len_at r g n _ ic p oc q.length w h.head h.shape.diff

theorem cap_ring (r g n : Nat) (ic oc : Int) (q : List Int) (w : World) (h : IsRing w r g n ic oc q) :
    Calls Try.prog 94 #[.pointer (some ⟨r, 0, none⟩)] w fun e w' => e = .returned (.int .i64 n) ∧ w = w' := by
  obtain ⟨p, zs, h⟩ := h
  exact cap_at r g n _ ic p oc w h.head

theorem free_ring (r g n : Nat) (ic oc : Int) (q : List Int) (w : World) (h : IsRing w r g n ic oc q) :
    Calls Try.prog 80 #[.pointer (some ⟨r, 0, none⟩)] w fun e w' => e = .returned (.int .i64 (n - q.length)) ∧ ∃ n, w' = w.drewN n := by
  obtain ⟨p, zs, h⟩ := h
  exact free_at r g n _ ic p oc q.length w h.head h.shape.diff h.shape.max

end Go.Proofs.Ytjojhnkibgkleaa
