/-
  Stores in numbers: where an entry goes, what is told, and what follows; conditions as each theorem has them.
-/
import Derived.Test.YtcihkdmndpdmoaaRows
set_option linter.unusedSimpArgs false
set_option linter.unusedVariables false
namespace Go.Proofs.Ytcihkdmndpdmoaa

/-- A slot: its key, its bytes, when they were put, their age, and whether it was asked for. -/
structure Sl where
  key : ByteArray
  bs : ByteArray
  at_ : Int
  age : Int
  asked : Bool
def noN : ByteArray := ⟨#[]⟩
def zeroS : Sl := ⟨noN, noN, 0, 0, false⟩
theorem noN_size : noN.size = 0 := rfl
theorem noN_of {t : ByteArray} (h : t.size = 0) : t = noN := by
  obtain ⟨⟨l⟩⟩ := t
  cases l with
  | nil => rfl
  | cons a b => simp [ByteArray.size] at h
theorem ne_noN {t : ByteArray} (h : t.size ≠ 0) : t ≠ noN := fun e => h (by rw [e]; rfl)

structure Sl.Ok (K : Nat) (s : Sl) : Prop where
  low : 0 ≤ s.at_
  top : s.at_ ≤ 1099511627776
  alow : 0 ≤ s.age
  atop : s.age ≤ 1048576
  few : s.bs.size ≤ K
  long : s.key.size ≤ 4096
  none : s.key.size = 0 → s = zeroS
theorem zeroS_ok (K : Nat) : zeroS.Ok K := ⟨(by decide), (by decide), (by decide), (by decide), Nat.zero_le _, (by decide), fun _ => rfl⟩
theorem Sl.Ok.asked {K : Nat} {s : Sl} (h : s.Ok K) (hk : s.key.size ≠ 0) (b : Bool) : ({ s with asked := b } : Sl).Ok K := ⟨h.low, h.top, h.alow, h.atop, h.few, h.long, fun e => absurd e hk⟩
theorem Sl.Ok.zero {K : Nat} {s : Sl} (h : s.Ok K) : s = zeroS ↔ s.key.size = 0 := ⟨fun e => by rw [e]; rfl, h.none⟩

def okL (K : Nat) (L : List Sl) : Prop := ∀ (i : Nat) (s : Sl), L[i]? = some s → s.Ok K
theorem okL_set {K : Nat} {L : List Sl} (h : okL K L) (i : Nat) {s : Sl} (hs : s.Ok K) : okL K (L.set i s) := by
  intro j x hx
  rw [List.getElem?_set] at hx
  split at hx
  · split at hx
    · simp at hx; subst hx; exact hs
    · cases hx
  · exact h j x hx

def at0 (L : List Sl) (i : Nat) : Sl := L.getD i zeroS
theorem at0_of {L : List Sl} {i : Nat} {s : Sl} (h : L[i]? = some s) : at0 L i = s := by simp [at0, h]
theorem get_at0 {L : List Sl} {i : Nat} (h : i < L.length) : L[i]? = some (at0 L i) := by simp [at0, h]
theorem at0_set {L : List Sl} {i j : Nat} (x : Sl) (hi : i < L.length) : at0 (L.set i x) j = if j = i then x else at0 L j := by
  unfold at0
  rw [List.getD_eq_getElem?_getD, List.getElem?_set]
  by_cases h : j = i
  · rw [if_pos h.symm, if_pos hi, if_pos h]; rfl
  · rw [if_neg (fun e => h e.symm), if_neg h, List.getD_eq_getElem?_getD]

/-- The first slot of a key; the slots' number, where there is none. -/
def fidx (key : ByteArray) : List Sl → Nat
  | [] => 0
  | s :: t => if s.key = key then 0 else fidx key t + 1
theorem fidx_le (key : ByteArray) : ∀ L, fidx key L ≤ L.length
  | [] => Nat.le_refl _
  | s :: t => by unfold fidx; split <;> simp; exact fidx_le key t
theorem fidx_at (key : ByteArray) : ∀ (L : List Sl) (s : Sl), L[fidx key L]? = some s → s.key = key
  | [], s, h => by simp [fidx] at h
  | x :: t, s, h => by
    unfold fidx at h
    split at h
    · simp at h; subst h; assumption
    · exact fidx_at key t s (by simpa using h)
theorem fidx_least (key : ByteArray) : ∀ (L : List Sl) (j : Nat) (s : Sl), L[j]? = some s → s.key = key → fidx key L ≤ j
  | [], j, s, h, e => by simp at h
  | x :: t, 0, s, h, e => by simp at h; subst h; unfold fidx; rw [if_pos e]; exact Nat.zero_le _
  | x :: t, j + 1, s, h, e => by
    unfold fidx
    split
    · omega
    · have := fidx_least key t j s (by simpa using h) e; omega
theorem fidx_eq {key : ByteArray} {L : List Sl} {j : Nat} {s : Sl} (h : L[j]? = some s) (e : s.key = key) (hb : ∀ (k : Nat) (x : Sl), k < j → L[k]? = some x → x.key ≠ key) : fidx key L = j := by
  have h1 := fidx_least key L j s h e
  rcases Nat.lt_or_ge (fidx key L) j with h2 | h2
  · have hl : fidx key L < L.length := by have := (List.getElem?_eq_some_iff.1 h).1; omega
    exact absurd (fidx_at key L _ (get_at0 hl)) (hb _ _ h2 (get_at0 hl))
  · omega
theorem fidx_none {key : ByteArray} {L : List Sl} (hb : ∀ (k : Nat) (x : Sl), L[k]? = some x → x.key ≠ key) : fidx key L = L.length := by
  have := fidx_le key L
  rcases Nat.lt_or_ge (fidx key L) L.length with h2 | h2
  · exact absurd (fidx_at key L _ (get_at0 h2)) (hb _ _ (get_at0 h2))
  · omega
theorem fidx_not {key : ByteArray} {L : List Sl} (h : ¬ fidx key L < L.length) (k : Nat) (x : Sl) (hx : L[k]? = some x) : x.key ≠ key := fun e => by
  have := fidx_least key L k x hx e
  have := (List.getElem?_eq_some_iff.1 hx).1
  omega

/-- No key has two slots. -/
def Uniq (L : List Sl) : Prop := ∀ (i j : Nat) (s t : Sl), L[i]? = some s → L[j]? = some t → s.key = t.key → s.key.size ≠ 0 → i = j
theorem Uniq.set {L : List Sl} (h : Uniq L) (p : Nat) (x : Sl) (hx : ∀ j t, L[j]? = some t → t.key = x.key → x.key.size ≠ 0 → j = p) : Uniq (L.set p x) := by
  intro i j s t hs ht e hne
  rw [List.getElem?_set] at hs ht
  split at hs
  · rename_i hi
    subst hi
    split at hs
    · simp at hs; subst hs
      split at ht
      · assumption
      · exact (hx j t ht e.symm hne).symm
    · cases hs
  · split at ht
    · rename_i hj
      subst hj
      split at ht
      · simp at ht; subst ht
        exact hx i s hs e (by rw [← e]; exact hne)
      · cases ht
    · exact h i j s t hs ht e hne
theorem Uniq.own {L : List Sl} (h : Uniq L) (p : Nat) {s : Sl} (hs : L[p]? = some s) (x : Sl) (hx : x.key = s.key) : Uniq (L.set p x) :=
  h.set p x (fun j t ht e hne => h j p t s ht hs (by rw [e, hx]) (by rw [e]; exact hne))
theorem Uniq.fidx {L : List Sl} (h : Uniq L) {j : Nat} {s : Sl} (hs : L[j]? = some s) (hk : s.key.size ≠ 0) : fidx s.key L = j :=
  fidx_eq hs rfl (fun k x hk' hx e => by have := h k j x s hx hs e (by rw [e]; exact hk); omega)

abbrev badNow (now : Int) : Prop := now < 0 ∨ 1099511627776 < now
abbrev badKey (key : ByteArray) : Prop := key.size = 0 ∨ 4096 < key.size
abbrev badAge (age : Int) : Prop := age < 1 ∨ 1048576 < age

def fresh (s : Sl) (now : Int) : Bool := decide (s.at_ ≤ now) && decide (now - s.at_ < s.age)
def stays (s : Sl) (now : Int) : Bool := s.asked && fresh s now
theorem zero_fresh (now : Int) : fresh zeroS now = false := by
  unfold fresh
  by_cases h : (0 : Int) ≤ now
  · have : ¬ now - 0 < 0 := by omega
    simp [zeroS, h]
  · simp [zeroS, h]

/-- How many were asked for. -/
def cntA (L : List Sl) : Nat := L.countP (·.asked)
def calmed (L : List Sl) (h : Nat) : List Sl := L.set h { at0 L h with asked := false }
theorem calmed_length (L : List Sl) (h : Nat) : (calmed L h).length = L.length := by simp [calmed]
theorem cntA_calmed : ∀ {L : List Sl} {h : Nat}, h < L.length → (at0 L h).asked = true → cntA L = cntA (calmed L h) + 1
  | [], h, hl, _ => by simp at hl
  | s :: t, 0, _, ha => by
    have : s.asked = true := ha
    simp [cntA, calmed, at0, List.countP_cons, this]
  | s :: t, h + 1, hl, ha => by
    have := cntA_calmed (L := t) (h := h) (by simpa using hl) (by simpa [at0] using ha)
    simp only [cntA, calmed, at0, List.set_cons_succ, List.countP_cons, List.getD_cons_succ] at this ⊢
    omega
/-- The hand goes on. -/
def spin (now : Int) : Nat → List Sl → Nat → List Sl × Nat
  | 0, L, h => (L, h)
  | k + 1, L, h => if stays (at0 L h) now then spin now k (calmed L h) ((h + 1) % L.length) else (L, h)
theorem spin_step {now : Int} {L : List Sl} {h : Nat} (hl : h < L.length) (hs : stays (at0 L h) now = true) : spin now (cntA L) L h = spin now (cntA (calmed L h)) (calmed L h) ((h + 1) % L.length) := by
  have ha : (at0 L h).asked = true := by unfold stays at hs; simp at hs; exact hs.1
  rw [cntA_calmed hl ha]
  simp only [spin, hs, if_true]
theorem spin_stop {now : Int} {L : List Sl} {h : Nat} (hs : stays (at0 L h) now = false) (k : Nat) : spin now k L h = (L, h) := by
  cases k with
  | zero => rfl
  | succ k => simp [spin, hs]

/-- The keys in the slots. -/
def nms (L : List Sl) : List ByteArray := L.map (·.key)
theorem nms_length (L : List Sl) : (nms L).length = L.length := by simp [nms]
theorem nms_set (L : List Sl) (i : Nat) (x : Sl) (h : x.key = (at0 L i).key) : nms (L.set i x) = nms L := by
  unfold nms
  rw [List.map_set]
  apply List.ext_getElem?
  intro j
  rw [List.getElem?_set]
  split
  · rename_i e
    subst e
    split
    · rename_i hl
      simp at hl
      rw [h, List.getElem?_map, get_at0 hl]; rfl
    · rename_i hl
      simp at hl
      rw [List.getElem?_eq_none (by simpa using hl)]
  · rfl
theorem nms_get {L : List Sl} {i : Nat} {s : Sl} (h : L[i]? = some s) : (nms L)[i]? = some s.key := by simp [nms, h]
theorem of_nms {L K : List Sl} (h : nms L = nms K) {i : Nat} {s : Sl} (hs : L[i]? = some s) : ∃ t, K[i]? = some t ∧ t.key = s.key := by
  have := nms_get hs
  rw [h] at this
  simp only [nms, List.getElem?_map, Option.map_eq_some_iff] at this
  exact this
theorem nms_len {L K : List Sl} (h : nms L = nms K) : L.length = K.length := by rw [← nms_length L, h, nms_length]
theorem Uniq.nms {L K : List Sl} (h : Uniq L) (e : nms K = nms L) : Uniq K := by
  intro i j s t hs ht e1 hne
  obtain ⟨s', hs', es⟩ := of_nms e hs
  obtain ⟨t', ht', et⟩ := of_nms e ht
  exact h i j s' t' hs' ht' (by rw [es, et, e1]) (by rw [es]; exact hne)

/-- A store: its slots, its hand, how many bytes it keeps. -/
structure Inv (K : Nat) (L : List Sl) (h : Nat) : Prop where
  ok : okL K L
  uniq : Uniq L
  hand : h < L.length ∨ (L = [] ∧ h = 0)
  max : L.length ≤ 4096
  keep : K ≤ 65536
theorem Inv.le {K : Nat} {L : List Sl} {h : Nat} (i : Inv K L h) : h ≤ L.length := by
  rcases i.hand with h1 | ⟨h1, h2⟩ <;> omega
theorem mod_lt {h n : Nat} (hn : 0 < n) : (h + 1) % n < n := Nat.mod_lt _ hn
theorem calmed_inv {K : Nat} {L : List Sl} {h : Nat} (i : Inv K L h) (hl : h < L.length) (ha : (at0 L h).asked = true) : Inv K (calmed L h) ((h + 1) % L.length) ∧ nms (calmed L h) = nms L := by
  have hk : (at0 L h).key.size ≠ 0 := fun e => by
    have := (i.ok h _ (get_at0 hl)).none e
    rw [this] at ha
    cases ha
  refine ⟨⟨okL_set i.ok h ((i.ok h _ (get_at0 hl)).asked hk false), i.uniq.own h (get_at0 hl) _ rfl, Or.inl ?_, by rw [calmed_length]; exact i.max, i.keep⟩, nms_set _ _ _ rfl⟩
  rw [calmed_length]
  exact mod_lt (by omega)
theorem spin_inv {K : Nat} {now : Int} : ∀ (k : Nat) {L : List Sl} {h : Nat}, Inv K L h → h < L.length → Inv K (spin now k L h).1 (spin now k L h).2 ∧ nms (spin now k L h).1 = nms L ∧ (spin now k L h).2 < L.length
  | 0, L, h, i, hl => ⟨i, rfl, hl⟩
  | k + 1, L, h, i, hl => by
    unfold spin
    split
    · rename_i hs
      have ha : (at0 L h).asked = true := by unfold stays at hs; simp at hs; exact hs.1
      obtain ⟨i1, e1⟩ := calmed_inv i hl ha
      have := spin_inv (now := now) k (L := calmed L h) (h := (h + 1) % L.length) i1 (by rw [calmed_length]; exact mod_lt (by omega))
      rw [calmed_length, e1] at this
      exact this
    · exact ⟨i, rfl, hl⟩

/-- Where an entry goes: the slots then, the hand then, the place. -/
def place (L : List Sl) (h : Nat) (now : Int) (key : ByteArray) : List Sl × Nat × Nat :=
  if fidx key L < L.length then (L, h, fidx key L)
  else if fidx noN L < L.length then (L, h, fidx noN L)
  else ((spin now (cntA L) L h).1, ((spin now (cntA L) L h).2 + 1) % L.length, (spin now (cntA L) L h).2)
theorem place_inv {K : Nat} {L : List Sl} {h : Nat} (now : Int) (key : ByteArray) (i : Inv K L h) (hl : 0 < L.length) : Inv K (place L h now key).1 (place L h now key).2.1 ∧ nms (place L h now key).1 = nms L ∧ (place L h now key).2.2 < L.length ∧ ((∃ s, L[(place L h now key).2.2]? = some s ∧ s.key = key) ∨ ∀ (j : Nat) (t : Sl), L[j]? = some t → t.key ≠ key) := by
  unfold place
  split
  · rename_i h1
    exact ⟨i, rfl, h1, Or.inl ⟨_, get_at0 h1, fidx_at key L _ (get_at0 h1)⟩⟩
  · rename_i h1
    split
    · rename_i h2
      exact ⟨i, rfl, h2, Or.inr (fidx_not h1)⟩
    · have hh : h < L.length := by rcases i.hand with h3 | ⟨h3, _⟩; exact h3; subst h3; simp at hl
      obtain ⟨i1, e1, l1⟩ := spin_inv (now := now) (cntA L) i hh
      refine ⟨⟨i1.ok, i1.uniq, Or.inl ?_, i1.max, i1.keep⟩, e1, l1, Or.inr (fidx_not h1)⟩
      rw [nms_len e1]
      exact mod_lt hl

abbrev badPut (now : Int) (key : ByteArray) (age : Int) : Prop := badNow now ∨ badKey key ∨ badAge age
/-- What Put answers. -/
def code (K : Nat) (L : List Sl) (now : Int) (key : ByteArray) (n : Nat) (age : Int) : Int :=
  if badPut now key age then 2 else if K < n then 3 else if L.length = 0 then 4 else 0
/-- What Put leaves. -/
def putS (L : List Sl) (h : Nat) (now : Int) (key : ByteArray) (b : ByteArray) (age : Int) : List Sl × Nat :=
  ((place L h now key).1.set (place L h now key).2.2 ⟨key, b, now, age, false⟩, (place L h now key).2.1)
def put (K : Nat) (L : List Sl) (h : Nat) (now : Int) (key : ByteArray) (b : ByteArray) (age : Int) : List Sl × Nat :=
  if code K L now key b.size age = 0 then putS L h now key b age else (L, h)
theorem code_ok {K : Nat} {L : List Sl} {now : Int} {key : ByteArray} {n : Nat} {age : Int} (h : code K L now key n age = 0) : ¬ badPut now key age ∧ n ≤ K ∧ 0 < L.length := by
  unfold code at h
  split at h
  · cases h
  · split at h
    · cases h
    · split at h
      · cases h
      · exact ⟨by assumption, by omega, by omega⟩
theorem code_of {K : Nat} {L : List Sl} {now : Int} {key : ByteArray} {n : Nat} {age : Int} (h : ¬ badPut now key age) (h1 : n ≤ K) (h2 : 0 < L.length) : code K L now key n age = 0 := by
  unfold code
  rw [if_neg h, if_neg (by omega), if_neg (by omega)]
theorem put_bad {K : Nat} {L : List Sl} {h : Nat} {now : Int} {key : ByteArray} {b : ByteArray} {age : Int} (hc : code K L now key b.size age ≠ 0) : put K L h now key b age = (L, h) := by unfold put; rw [if_neg hc]
theorem put_good {K : Nat} {L : List Sl} {h : Nat} {now : Int} {key : ByteArray} {b : ByteArray} {age : Int} (hc : code K L now key b.size age = 0) : put K L h now key b age = putS L h now key b age := by unfold put; rw [if_pos hc]
theorem putS_length (L : List Sl) (h : Nat) (now : Int) (key : ByteArray) (b : ByteArray) (age : Int) {K : Nat} (i : Inv K L h) (hl : 0 < L.length) : (putS L h now key b age).1.length = L.length := by
  unfold putS
  rw [List.length_set, nms_len (place_inv now key i hl).2.1]
theorem put_length {K : Nat} {L : List Sl} {h : Nat} (i : Inv K L h) (now : Int) (key : ByteArray) (b : ByteArray) (age : Int) : (put K L h now key b age).1.length = L.length := by
  by_cases hc : code K L now key b.size age = 0
  · rw [put_good hc]; exact putS_length L h now key b age i (code_ok hc).2.2
  · rw [put_bad hc]
theorem new_entry {K : Nat} {now : Int} {key b : ByteArray} {age : Int} (h : ¬ badPut now key age) (hb : b.size ≤ K) : (⟨key, b, now, age, false⟩ : Sl).Ok K := by
  have h1 : ¬ badNow now := fun e => h (Or.inl e)
  have h2 : ¬ badKey key := fun e => h (Or.inr (Or.inl e))
  have h3 : ¬ badAge age := fun e => h (Or.inr (Or.inr e))
  unfold badNow at h1
  unfold badKey at h2
  unfold badAge at h3
  exact ⟨by show 0 ≤ now; omega, by show now ≤ _; omega, by show 0 ≤ age; omega, by show age ≤ _; omega, hb, by show key.size ≤ _; omega, fun e => absurd e (by show ¬ key.size = 0; omega)⟩
theorem put_inv {K : Nat} {L : List Sl} {h : Nat} (i : Inv K L h) (now : Int) (key : ByteArray) (b : ByteArray) (age : Int) : Inv K (put K L h now key b age).1 (put K L h now key b age).2 := by
  by_cases hc : code K L now key b.size age = 0
  · rw [put_good hc]
    obtain ⟨h1, h2, h3⟩ := code_ok hc
    obtain ⟨p1, p2, p3, p4⟩ := place_inv now key i h3
    unfold putS
    refine ⟨okL_set p1.ok _ (new_entry h1 h2), ?_, ?_, by rw [List.length_set]; exact p1.max, i.keep⟩
    · refine p1.uniq.set _ _ (fun j t ht e hne => ?_)
      have e' : t.key = key := e
      obtain ⟨t', ht', et⟩ := of_nms p2 ht
      rcases p4 with ⟨s, hs, es⟩ | hno
      · exact i.uniq j _ t' s ht' hs (by rw [et, es, e']) (by rw [et, e']; exact hne)
      · exact absurd (et.trans e') (hno j t' ht')
    · rw [List.length_set]
      rcases p1.hand with h4 | ⟨h4, h5⟩
      · exact Or.inl h4
      · have := nms_len p2
        rw [h4] at this
        simp at this
        omega
  · rw [put_bad hc]; exact i

/-- What Get finds: a slot of that key that is fresh. -/
def got (L : List Sl) (now : Int) (key : ByteArray) : Option Sl :=
  if badNow now ∨ badKey key then none else match L[fidx key L]? with
  | some s => if fresh s now then some s else none
  | none => none
def getC (L : List Sl) (now : Int) (key : ByteArray) : Int := if badNow now ∨ badKey key then 2 else match got L now key with | some _ => 0 | none => 5
def getB (L : List Sl) (now : Int) (key : ByteArray) : ByteArray := match got L now key with | some s => s.bs | none => noN
def getN (L : List Sl) (now : Int) (key : ByteArray) : Int := match got L now key with | some s => now - s.at_ | none => 0
def getL (L : List Sl) (now : Int) (key : ByteArray) : List Sl := match got L now key with | some s => L.set (fidx key L) { s with asked := true } | none => L
theorem got_spec {L : List Sl} {now : Int} {key : ByteArray} {s : Sl} (h : got L now key = some s) : ¬ (badNow now ∨ badKey key) ∧ L[fidx key L]? = some s ∧ s.key = key ∧ fresh s now = true := by
  unfold got at h
  split at h
  · cases h
  · split at h
    · rename_i x hx
      split at h
      · simp at h; subst h; exact ⟨by assumption, hx, fidx_at _ _ _ hx, by assumption⟩
      · cases h
    · cases h
theorem got_of {L : List Sl} {now : Int} {key : ByteArray} {s : Sl} (hb : ¬ (badNow now ∨ badKey key)) (h : L[fidx key L]? = some s) (hf : fresh s now = true) : got L now key = some s := by unfold got; rw [if_neg hb, h]; simp [hf]
theorem got_not {L : List Sl} {now : Int} {key : ByteArray} (h : ∀ s, L[fidx key L]? = some s → fresh s now = false) : got L now key = none := by
  unfold got
  split
  · rfl
  · split
    · rename_i x hx
      rw [h x hx]; rfl
    · rfl
theorem got_bad {L : List Sl} {now : Int} {key : ByteArray} (h : badNow now ∨ badKey key) : got L now key = none := by unfold got; rw [if_pos h]
theorem get_some {L : List Sl} {now : Int} {key : ByteArray} {s : Sl} (h : got L now key = some s) : getC L now key = 0 ∧ getB L now key = s.bs ∧ getN L now key = now - s.at_ ∧ getL L now key = L.set (fidx key L) { s with asked := true } := by
  have := (got_spec h).1
  simp only [getC, getB, getN, getL, h, if_neg this]
  exact ⟨trivial, trivial, trivial, trivial⟩
theorem get_none {L : List Sl} {now : Int} {key : ByteArray} (h : got L now key = none) : getC L now key = (if badNow now ∨ badKey key then 2 else 5) ∧ getB L now key = noN ∧ getN L now key = 0 ∧ getL L now key = L := by
  simp only [getC, getB, getN, getL, h]
  exact ⟨trivial, trivial, trivial, trivial⟩
theorem getL_nms (L : List Sl) (now : Int) (key : ByteArray) : nms (getL L now key) = nms L := by
  unfold getL
  cases hg : got L now key with
  | none => rfl
  | some s =>
    obtain ⟨_, h2, _, _⟩ := got_spec hg
    exact nms_set _ _ _ (by rw [at0_of h2])
theorem getL_length (L : List Sl) (now : Int) (key : ByteArray) : (getL L now key).length = L.length := nms_len (getL_nms L now key)
theorem get_inv {K : Nat} {L : List Sl} {h : Nat} (i : Inv K L h) (now : Int) (key : ByteArray) : Inv K (getL L now key) h := by
  have hn := getL_nms L now key
  refine ⟨?_, i.uniq.nms hn, ?_, by rw [nms_len hn]; exact i.max, i.keep⟩
  · unfold getL
    cases hg : got L now key with
    | none => exact i.ok
    | some s =>
      obtain ⟨h1, h2, h3, h4⟩ := got_spec hg
      have hk : s.key.size ≠ 0 := by rw [h3]; intro e; exact h1 (Or.inr (Or.inl e))
      exact okL_set i.ok _ ((i.ok _ _ h2).asked hk true)
  · rcases i.hand with h1 | ⟨h1, h2⟩
    · exact Or.inl (by rw [nms_len hn]; exact h1)
    · subst h1
      exact Or.inr ⟨List.length_eq_zero_iff.1 (by rw [nms_len hn]; rfl), h2⟩

/-- Drop. -/
def isIn (L : List Sl) (key : ByteArray) : Bool := decide (key.size ≠ 0) && decide (fidx key L < L.length)
def dropL (L : List Sl) (key : ByteArray) : List Sl := if isIn L key then L.set (fidx key L) zeroS else L
theorem dropL_length (L : List Sl) (key : ByteArray) : (dropL L key).length = L.length := by unfold dropL; split <;> simp
theorem drop_inv {K : Nat} {L : List Sl} {h : Nat} (i : Inv K L h) (key : ByteArray) : Inv K (dropL L key) h := by
  refine ⟨?_, ?_, ?_, by rw [dropL_length]; exact i.max, i.keep⟩
  · unfold dropL; split
    · exact okL_set i.ok _ (zeroS_ok K)
    · exact i.ok
  · unfold dropL; split
    · exact i.uniq.set _ _ (fun j t _ _ e => absurd rfl e)
    · exact i.uniq
  · rcases i.hand with h1 | ⟨h1, h2⟩
    · exact Or.inl (by rw [dropL_length]; exact h1)
    · subst h1
      exact Or.inr ⟨List.length_eq_zero_iff.1 (by rw [dropL_length]; rfl), h2⟩

/-- How many of the first k slots have an entry. -/
def cnt (L : List Sl) : Nat → Nat
  | 0 => 0
  | k + 1 => cnt L k + if (at0 L k).key.size = 0 then 0 else 1
theorem cnt_le (L : List Sl) : ∀ k, cnt L k ≤ k
  | 0 => Nat.le_refl _
  | k + 1 => by have := cnt_le L k; unfold cnt; split <;> omega
def used (L : List Sl) : Nat := cnt L L.length
theorem used_le (L : List Sl) : used L ≤ L.length := cnt_le _ _

theorem new_at {n i : Nat} {s : Sl} (h : (List.replicate n zeroS)[i]? = some s) : s = zeroS := by
  rw [List.getElem?_replicate] at h
  split at h
  · simpa using h.symm
  · cases h
theorem new_inv (n K : Nat) (hn : n ≤ 4096) (hK : K ≤ 65536) : Inv K (List.replicate n zeroS) 0 := by
  refine ⟨fun i s hs => ?_, fun i j s t hs ht e hne => ?_, ?_, by simpa using hn, hK⟩
  · obtain rfl := new_at hs; exact zeroS_ok K
  · obtain rfl := new_at hs; exact absurd rfl hne
  · cases n with
    | zero => exact Or.inr ⟨rfl, rfl⟩
    | succ n => exact Or.inl (by simp)
theorem Inv.pos {K : Nat} {L : List Sl} {h : Nat} (i : Inv K L h) (hl : 0 < L.length) : h < L.length := by
  rcases i.hand with h1 | ⟨h1, _⟩
  · exact h1
  · subst h1; simp at hl
end Go.Proofs.Ytcihkdmndpdmoaa
