/-
  A port in numbers: how its endpoints stand, what an event and each call make of them; no conditions but those in each theorem.
-/
import Derived.Test.YtjojhnkibgkleaaRG
set_option linter.unusedSimpArgs false
set_option linter.unusedVariables false
namespace Go.Proofs.Ytjojhnkibgkleaa
open Go.RowKit Go.Lib

/-- An endpoint: what is in its ring, its state, its room, whether it is new, whether the other side and this one have ended. -/
structure En where
  q : List Int
  st : Int
  room : Int
  nw : Bool
  oth : Bool
  ths : Bool
/-- An endpoint in a state, with nothing else. -/
def z (s : Int) : En := ⟨[], s, 0, false, false, false⟩
/-- An output. -/
structure Ot where
  k : Int
  e : Int
  d : ByteArray
  a1 : Int
  a2 : Int
  a3 : Int
  a4 : Int
  nm : ByteArray
  po : Int
def emp : ByteArray := ⟨#[]⟩
def ot (k e : Int) (d : ByteArray) : Ot := ⟨k, e, d, 0, 0, 0, 0, emp, 0⟩
structure Pt where
  c : Nat
  sz : Nat
  L : List En
  gr : List ByteArray
  ou : List Ot
def at0 (L : List En) (i : Nat) : En := L.getD i (z 0)
theorem at0_set {L : List En} {i : Nat} (x : En) (hi : i < L.length) (j : Nat) : at0 (L.set i x) j = if j = i then x else at0 L j := by
  unfold at0
  rw [List.getD_eq_getElem?_getD, List.getD_eq_getElem?_getD, List.getElem?_set]
  by_cases h : i = j
  · subst h; simp [hi]
  · rw [if_neg h, if_neg (fun e => h e.symm)]
def inr_ (a b e : Int) : Bool := decide (a ≤ e) && decide (e < b)
def cli (P : Pt) (e : Int) : Bool := inr_ 0 P.c e
def srv (P : Pt) (e : Int) : Bool := inr_ P.c P.L.length e
def str_ (P : Pt) (e : Int) : Bool := inr_ 0 P.L.length e
def bi (t : ByteArray) : List Int := t.data.toList.map fun c => ((c.toNat : Nat) : Int)
theorem bi_length (t : ByteArray) : (bi t).length = t.size := by show (t.data.toList.map _).length = t.data.size; simp
theorem bi_byte (t : ByteArray) : ∀ x ∈ bi t, 0 ≤ x ∧ x < 256 := by
  intro x hx
  simp only [bi, List.mem_map] at hx
  obtain ⟨c, _, rfl⟩ := hx
  have := c.toNat_lt
  omega
theorem str_bi (t : ByteArray) : strOfNums (bi t) = t := by
  simp only [strOfNums, bi, List.map_map]
  apply ByteArray.ext
  apply Array.toList_inj.1
  simp only [List.toList_toArray]
  conv => rhs; rw [← List.map_id t.data.toList]
  apply List.map_congr_left
  intro c _
  simp
theorem bi_str (l : List Int) (h : ∀ x ∈ l, 0 ≤ x ∧ x < 256) : bi (strOfNums l) = l := by
  simp only [strOfNums, bi, List.map_map]
  conv => rhs; rw [← List.map_id l]
  apply List.map_congr_left
  intro x hx
  have := h x hx
  simp
  omega
theorem str_size (l : List Int) : (strOfNums l).size = l.length := by show ((l.map _).toArray).size = _; simp
/-- Is there such a kind of event, and is it for that endpoint? -/
def isF (P : Pt) (k e N : Int) (d : ByteArray) : Bool :=
  if k = 1 then cli P e
  else if k = 2 ∨ k = 3 ∨ k = 4 then str_ P e
  else if k = 5 then decide (0 ≤ N) && str_ P e
  else if k = 6 ∨ k = 7 then srv P e
  else if k = 8 then decide (e = P.L.length) && decide (d.size ≤ 512)
  else false
/-- Why an endpoint refuses a kind. -/
def refu (x : En) (k : Int) : Int :=
  if k = 1 then (if x.st = 0 then 0 else 151)
  else if k = 2 ∨ k = 3 then (if x.oth then 150 else if x.st = 1 then 0 else 150)
  else if k = 5 then (if x.st = 1 then 0 else 150)
  else if k = 4 then (if x.st = 1 ∨ x.st = 2 then 0 else 150)
  else if k = 6 ∨ k = 7 then (if x.st = 2 then 0 else 150)
  else 0
/-- How many bytes go in. -/
def fits (sz : Nat) (x : En) (d : ByteArray) : Nat := min d.size (sz - x.q.length)
/-- What an event makes of an endpoint. -/
def hap (sz : Nat) (x : En) (k N : Int) (d : ByteArray) : En :=
  if k = 2 then { x with q := x.q ++ (bi d).take (fits sz x d) }
  else if k = 3 then { x with oth := true }
  else if k = 5 then { x with room := x.room + min N (1099511627776 - x.room) }
  else if k = 4 then (if x.nw then z 0 else z 3)
  else if k = 7 then z 3
  else if k = 1 then { z 1 with nw := true }
  else if k = 6 then z 1
  else x
def hapN (sz : Nat) (x : En) (k : Int) (d : ByteArray) : Nat := if k = 2 then fits sz x d else 0
def evC (P : Pt) (k e N : Int) (d : ByteArray) : Int :=
  if isF P k e N d = false then 2
  else if k = 8 then (if P.gr.length = 8 then 4 else 0)
  else refu (at0 P.L e.toNat) k
def evN (P : Pt) (k e N : Int) (d : ByteArray) : Nat :=
  if isF P k e N d = false ∨ k = 8 ∨ refu (at0 P.L e.toNat) k ≠ 0 then 0 else hapN P.sz (at0 P.L e.toNat) k d
def evP (P : Pt) (k e N : Int) (d : ByteArray) : Pt :=
  if isF P k e N d = false then P
  else if k = 8 then (if P.gr.length = 8 then P else { P with gr := P.gr ++ [d] })
  else if refu (at0 P.L e.toNat) k ≠ 0 then P
  else { P with L := P.L.set e.toNat (hap P.sz (at0 P.L e.toNat) k N d) }
/-- An endpoint as it may be. -/
structure En.Ok (sz : Nat) (x : En) : Prop where
  q : x.q.length ≤ sz
  s0 : 0 ≤ x.st
  s3 : x.st ≤ 3
  r0 : 0 ≤ x.room
  r1 : x.room ≤ 1099511627776
/-- A port as it may be. -/
structure Pt.Ok (P : Pt) : Prop where
  c : P.c ≤ P.L.length
  n : P.L.length ≤ 128
  z0 : 1 ≤ P.sz
  z1 : P.sz ≤ 65536
  e : ∀ i, En.Ok P.sz (at0 P.L i)
  g : P.gr.length ≤ 8
theorem z_ok (sz : Nat) (s : Int) (h0 : 0 ≤ s) (h1 : s ≤ 3) : En.Ok sz (z s) := ⟨by simp [z], h0, h1, by simp [z], by simp [z]⟩
theorem hap_ok {sz : Nat} {x : En} (h : En.Ok sz x) (k N : Int) (d : ByteArray) (hN : k = 5 → 0 ≤ N) : En.Ok sz (hap sz x k N d) := by
  have hq := h.q
  have h0 := h.r0
  have h1 := h.r1
  unfold hap
  split
  · refine ⟨?_, h.s0, h.s3, h.r0, h.r1⟩
    simp only [List.length_append, List.length_take, bi_length, fits]
    omega
  · split
    · exact ⟨h.q, h.s0, h.s3, h.r0, h.r1⟩
    · split
      · rename_i h5
        have := hN h5
        refine ⟨h.q, h.s0, h.s3, ?_, ?_⟩
        · show 0 ≤ x.room + _
          omega
        · show x.room + _ ≤ _
          omega
      · split
        · split
          · exact z_ok _ _ (by omega) (by omega)
          · exact z_ok _ _ (by omega) (by omega)
        · split
          · exact z_ok _ _ (by omega) (by omega)
          · split
            · exact ⟨by simp [z], by simp [z], by simp [z], by simp [z], by simp [z]⟩
            · split
              · exact z_ok _ _ (by omega) (by omega)
              · exact h
theorem Pt.Ok.set {P : Pt} (h : P.Ok) {i : Nat} (hi : i < P.L.length) {x : En} (hx : En.Ok P.sz x) (ou : List Ot) : Pt.Ok { P with L := P.L.set i x, ou := ou } :=
  ⟨by simpa using h.c, by simpa using h.n, h.z0, h.z1, fun j => by
    show En.Ok P.sz (at0 (P.L.set i x) j)
    rw [at0_set x hi]
    split
    · exact hx
    · exact h.e j, h.g⟩
theorem inr_nat {a b : Nat} {e : Int} (h : inr_ a b e = true) : a ≤ e.toNat ∧ e.toNat < b ∧ (e.toNat : Int) = e := by
  simp only [inr_, Bool.and_eq_true, decide_eq_true_eq] at h
  omega
theorem isF_lt {P : Pt} (h : P.Ok) {k e N : Int} {d : ByteArray} (hf : isF P k e N d = true) (hk : k ≠ 8) : e.toNat < P.L.length ∧ (e.toNat : Int) = e := by
  have hc := h.c
  unfold isF cli str_ srv at hf
  split at hf
  · have := inr_nat (a := 0) hf; omega
  · split at hf
    · have := inr_nat (a := 0) hf; omega
    · split at hf
      · simp only [Bool.and_eq_true] at hf
        have := inr_nat (a := 0) hf.2; omega
      · split at hf
        · have := inr_nat hf; omega
        · cases hf
theorem evP_ok {P : Pt} (h : P.Ok) (k e N : Int) (d : ByteArray) : (evP P k e N d).Ok := by
  unfold evP
  split
  · exact h
  · rename_i hf
    split
    · split
      · exact h
      · rename_i h8
        have := h.g
        exact ⟨h.c, h.n, h.z0, h.z1, h.e, by simp; omega⟩
    · rename_i hk
      split
      · exact h
      · have hf : isF P k e N d = true := by simpa using hf
        exact h.set (isF_lt h hf hk).1 (hap_ok (h.e _) k N d (fun h5 => by
          subst h5
          simp [isF] at hf
          exact hf.1)) P.ou
theorem evP_sz (P : Pt) (k e N : Int) (d : ByteArray) : (evP P k e N d).sz = P.sz ∧ (evP P k e N d).c = P.c ∧ (evP P k e N d).L.length = P.L.length ∧ (evP P k e N d).ou = P.ou := by
  unfold evP
  split
  · exact ⟨rfl, rfl, rfl, rfl⟩
  · split
    · split <;> exact ⟨rfl, rfl, rfl, rfl⟩
    · split
      · exact ⟨rfl, rfl, rfl, rfl⟩
      · exact ⟨rfl, rfl, by simp, rfl⟩

end Go.Proofs.Ytjojhnkibgkleaa
