/-
  Tables of names in numbers: where an entry goes, what is told, and what follows; conditions as each theorem has them.
-/
import Derived.Test.YtabkelhipmijfaaGreatDoorRows
set_option linter.unusedSimpArgs false
set_option linter.unusedVariables false
namespace Go.Proofs.YtabkelhipmijfaaGreatDoor.Nm

/-- An address: its four bytes. -/
abbrev Ad := Nat × Nat × Nat × Nat
def Ad.ok (a : Ad) : Prop := a.1 < 256 ∧ a.2.1 < 256 ∧ a.2.2.1 < 256 ∧ a.2.2.2 < 256
def okA (l : List Ad) : Prop := ∀ a ∈ l, Ad.ok a

/-- A slot: its name, till when, and its addresses. -/
structure Sl where
  name : ByteArray
  till : Int
  ads : List Ad
def noN : ByteArray := ⟨#[]⟩
def zeroS : Sl := ⟨noN, 0, []⟩
theorem noN_size : noN.size = 0 := rfl
theorem noN_of {t : ByteArray} (h : t.size = 0) : t = noN := by
  obtain ⟨⟨l⟩⟩ := t
  cases l with
  | nil => rfl
  | cons a b => simp [ByteArray.size] at h

structure Sl.Ok (s : Sl) : Prop where
  low : 0 ≤ s.till
  top : s.till ≤ 1099512676352
  few : s.ads.length ≤ 16
  byte : okA s.ads
  long : s.name.size ≤ 253
  none : s.name.size = 0 → s = zeroS
theorem zeroS_ok : zeroS.Ok := ⟨(by decide), (by decide), (by decide), (fun a ha => by cases ha), (by decide), fun _ => rfl⟩

def okL (L : List Sl) : Prop := ∀ (i : Nat) (s : Sl), L[i]? = some s → s.Ok
theorem okL_set {L : List Sl} (h : okL L) (i : Nat) {s : Sl} (hs : s.Ok) : okL (L.set i s) := by
  intro j x hx
  rw [List.getElem?_set] at hx
  split at hx
  · split at hx
    · simp at hx; subst hx; exact hs
    · cases hx
  · exact h j x hx

/-- How well a slot suits. -/
def rank (now : Int) (name : ByteArray) (s : Sl) : Int := if s.name = name then -2 else if now < s.till then s.till else -1
/-- The first of the least among the numbers 0 to k. -/
def best (r : Nat → Int) : Nat → Nat
  | 0 => 0
  | k + 1 => if r (k + 1) < r (best r k) then k + 1 else best r k
theorem best_spec (r : Nat → Int) : ∀ k, best r k ≤ k ∧ (∀ j, j ≤ k → r (best r k) ≤ r j) ∧ (∀ j, j < best r k → r (best r k) < r j)
  | 0 => ⟨Nat.le_refl _, (fun j hj => by
      obtain rfl : j = 0 := by omega
      exact Int.le_refl _), (fun j hj => by simp [best] at hj)⟩
  | k + 1 => by
    obtain ⟨h1, h2, h3⟩ := best_spec r k
    unfold best
    split
    · rename_i h
      refine ⟨Nat.le_refl _, fun j hj => ?_, fun j hj => ?_⟩
      · rcases Nat.lt_or_ge j (k + 1) with h4 | h4
        · have := h2 j (by omega); omega
        · obtain rfl : j = k + 1 := by omega
          exact Int.le_refl _
      · have := h2 j (by omega); omega
    · rename_i h
      refine ⟨by omega, fun j hj => ?_, h3⟩
      rcases Nat.lt_or_ge j (k + 1) with h4 | h4
      · exact h2 j (by omega)
      · obtain rfl : j = k + 1 := by omega
        omega
theorem best_eq {r : Nat → Int} {k i : Nat} (h1 : i ≤ k) (h2 : ∀ j, j ≤ k → r i ≤ r j) (h3 : ∀ j, j < i → r i < r j) : best r k = i := by
  obtain ⟨b1, b2, b3⟩ := best_spec r k
  rcases Nat.lt_trichotomy (best r k) i with h | h | h
  · have := h3 _ h; have := b2 i h1; omega
  · exact h
  · have := b3 _ h; have := h2 _ b1; omega

def at0 (L : List Sl) (i : Nat) : Sl := L.getD i zeroS
theorem at0_of {L : List Sl} {i : Nat} {s : Sl} (h : L[i]? = some s) : at0 L i = s := by simp [at0, h]
theorem get_at0 {L : List Sl} {i : Nat} (h : i < L.length) : L[i]? = some (at0 L i) := by simp [at0, h]
def rk (L : List Sl) (now : Int) (name : ByteArray) (i : Nat) : Int := rank now name (at0 L i)
/-- Where an entry goes. -/
def place (L : List Sl) (now : Int) (name : ByteArray) : Nat := best (rk L now name) (L.length - 1)
theorem place_lt {L : List Sl} (now : Int) (name : ByteArray) (h : 0 < L.length) : place L now name < L.length := by
  have := (best_spec (rk L now name) (L.length - 1)).1
  unfold place
  omega

/-- The first slot of a name; the slots' number, where there is none. -/
def fidx (name : ByteArray) : List Sl → Nat
  | [] => 0
  | s :: t => if s.name = name then 0 else fidx name t + 1
theorem fidx_le (name : ByteArray) : ∀ L, fidx name L ≤ L.length
  | [] => Nat.le_refl _
  | s :: t => by unfold fidx; split <;> simp; exact fidx_le name t
theorem fidx_at (name : ByteArray) : ∀ (L : List Sl) (s : Sl), L[fidx name L]? = some s → s.name = name
  | [], s, h => by simp [fidx] at h
  | x :: t, s, h => by
    unfold fidx at h
    split at h
    · simp at h; subst h; assumption
    · exact fidx_at name t s (by simpa using h)
theorem fidx_least (name : ByteArray) : ∀ (L : List Sl) (j : Nat) (s : Sl), L[j]? = some s → s.name = name → fidx name L ≤ j
  | [], j, s, h, e => by simp at h
  | x :: t, 0, s, h, e => by simp at h; subst h; unfold fidx; rw [if_pos e]; exact Nat.zero_le _
  | x :: t, j + 1, s, h, e => by
    unfold fidx
    split
    · omega
    · have := fidx_least name t j s (by simpa using h) e; omega
theorem fidx_eq {name : ByteArray} {L : List Sl} {j : Nat} {s : Sl} (h : L[j]? = some s) (e : s.name = name) (hb : ∀ (k : Nat) (x : Sl), k < j → L[k]? = some x → x.name ≠ name) : fidx name L = j := by
  have h1 := fidx_least name L j s h e
  rcases Nat.lt_or_ge (fidx name L) j with h2 | h2
  · have hl : fidx name L < L.length := by have := (List.getElem?_eq_some_iff.1 h).1; omega
    exact absurd (fidx_at name L _ (get_at0 hl)) (hb _ _ h2 (get_at0 hl))
  · omega
theorem fidx_none {name : ByteArray} {L : List Sl} (hb : ∀ (k : Nat) (x : Sl), L[k]? = some x → x.name ≠ name) : fidx name L = L.length := by
  have := fidx_le name L
  rcases Nat.lt_or_ge (fidx name L) L.length with h2 | h2
  · exact absurd (fidx_at name L _ (get_at0 h2)) (hb _ _ (get_at0 h2))
  · omega

abbrev badNow (now : Int) : Prop := now < 0 ∨ 1099511627776 < now
abbrev badPut (name : ByteArray) (n : Nat) (ttl : Int) : Prop := name.size = 0 ∨ 253 < name.size ∨ 16 < n ∨ ttl < 0 ∨ 1048576 < ttl
/-- What Put answers. -/
def code (L : List Sl) (now : Int) (name : ByteArray) (n : Nat) (ttl : Int) : Int :=
  if badNow now ∨ badPut name n ttl then 2 else if L.length = 0 then 4 else 0
/-- What Put leaves. -/
def put (L : List Sl) (now : Int) (name : ByteArray) (ads : List Ad) (ttl : Int) : List Sl :=
  if badNow now ∨ badPut name ads.length ttl then L else if ttl = 0 then L.set (fidx name L) zeroS else L.set (place L now name) ⟨name, now + ttl, ads⟩
theorem put_length (L : List Sl) (now : Int) (name : ByteArray) (ads : List Ad) (ttl : Int) : (put L now name ads ttl).length = L.length := by
  unfold put; split
  · rfl
  · split <;> simp
theorem put_bad {L : List Sl} {now : Int} {name : ByteArray} {ads : List Ad} {ttl : Int} (h : code L now name ads.length ttl ≠ 0) : put L now name ads ttl = L := by
  unfold code at h
  unfold put
  split
  · rfl
  · rename_i h1
    rw [if_neg h1] at h
    split at h
    · rename_i h2
      obtain rfl := List.length_eq_zero_iff.1 h2
      split <;> simp
    · exact absurd rfl h
theorem put_ok {L : List Sl} (h : okL L) (now : Int) (name : ByteArray) {ads : List Ad} (ha : okA ads) (ttl : Int) : okL (put L now name ads ttl) := by
  unfold put
  split
  · exact h
  · rename_i hb
    split
    · exact okL_set h _ zeroS_ok
    · have h1 : ¬ badNow now := fun e => hb (Or.inl e)
      have h2 : ¬ badPut name ads.length ttl := fun e => hb (Or.inr e)
      unfold badNow at h1
      unfold badPut at h2
      exact okL_set h _ ⟨by show 0 ≤ now + ttl; omega, by show now + ttl ≤ _; omega, by show ads.length ≤ 16; omega, ha, by show name.size ≤ 253; omega, fun e => absurd e (by show ¬ name.size = 0; omega)⟩

/-- What Get finds: a slot of that name that holds. -/
def got (L : List Sl) (now : Int) (name : ByteArray) : Option Sl :=
  if badNow now then none else match L[fidx name L]? with
  | some s => if now < s.till then some s else none
  | none => none
def getC (L : List Sl) (now : Int) (name : ByteArray) : Int := if badNow now then 2 else match got L now name with | some _ => 0 | none => 5
def getA (L : List Sl) (now : Int) (name : ByteArray) : List Ad := match got L now name with | some s => s.ads | none => []
def getT (L : List Sl) (now : Int) (name : ByteArray) : Int := match got L now name with | some s => s.till - now | none => 0
theorem got_spec {L : List Sl} {now : Int} {name : ByteArray} {s : Sl} (h : got L now name = some s) : ¬ badNow now ∧ L[fidx name L]? = some s ∧ s.name = name ∧ now < s.till := by
  unfold got at h
  split at h
  · cases h
  · split at h
    · rename_i x hx
      split at h
      · simp at h; subst h; exact ⟨by assumption, hx, fidx_at _ _ _ hx, by assumption⟩
      · cases h
    · cases h

/-- How many of the first k hold. -/
def cnt (L : List Sl) (now : Int) : Nat → Nat
  | 0 => 0
  | k + 1 => cnt L now k + if now < (at0 L k).till then 1 else 0
theorem cnt_le (L : List Sl) (now : Int) : ∀ k, cnt L now k ≤ k
  | 0 => Nat.le_refl _
  | k + 1 => by have := cnt_le L now k; unfold cnt; split <;> omega
def used (L : List Sl) (now : Int) : Nat := if badNow now then 0 else cnt L now L.length
theorem used_le (L : List Sl) (now : Int) : used L now ≤ L.length := by
  unfold used; split
  · omega
  · exact cnt_le _ _ _

/-- No name has two slots. -/
def Uniq (L : List Sl) : Prop := ∀ (i j : Nat) (s t : Sl), L[i]? = some s → L[j]? = some t → s.name = t.name → s.name.size ≠ 0 → i = j
theorem rank_own {now : Int} {name : ByteArray} {s : Sl} (h : s.name = name) : rank now name s = -2 := by simp [rank, h]
theorem own_rank {now : Int} {name : ByteArray} {s : Sl} (hn : 0 ≤ now) (h : rank now name s = -2) : s.name = name := by
  unfold rank at h
  split at h
  · assumption
  · split at h <;> omega
theorem rank_ge (now : Int) (name : ByteArray) (s : Sl) (hn : 0 ≤ now) : -2 ≤ rank now name s := by
  unfold rank; split
  · omega
  · split <;> omega
theorem place_own {L : List Sl} {now : Int} {name : ByteArray} (hn : 0 ≤ now) {j : Nat} {t : Sl} (hj : L[j]? = some t) (ht : t.name = name) : (at0 L (place L now name)).name = name := by
  have hl := (List.getElem?_eq_some_iff.1 hj).1
  have := (best_spec (rk L now name) (L.length - 1)).2.1 j (by omega)
  have e : rk L now name j = -2 := by unfold rk; rw [at0_of hj]; exact rank_own ht
  have h2 := rank_ge now name (at0 L (place L now name)) hn
  exact own_rank hn (by
    have h3 : rank now name (at0 L (place L now name)) ≤ -2 := by rw [← e]; exact this
    omega)
theorem Uniq.set {L : List Sl} (h : Uniq L) (p : Nat) (x : Sl) (hx : ∀ j t, L[j]? = some t → t.name = x.name → x.name.size ≠ 0 → j = p) : Uniq (L.set p x) := by
  intro i j s t hs ht e hne
  rw [List.getElem?_set] at hs ht
  split at hs
  · rename_i hi
    subst hi
    split at hs
    · simp at hs; subst hs
      split at ht
      · assumption
      · exact (hx j t ht e.symm hne).symm
    · cases hs
  · split at ht
    · rename_i hj
      subst hj
      split at ht
      · simp at ht; subst ht
        exact hx i s hs e (by rw [← e]; exact hne)
      · cases ht
    · exact h i j s t hs ht e hne
theorem put_uniq {L : List Sl} (h : Uniq L) (now : Int) (name : ByteArray) (ads : List Ad) (ttl : Int) : Uniq (put L now name ads ttl) := by
  unfold put
  split
  · exact h
  · rename_i hb
    have h1 : ¬ badNow now := fun e => hb (Or.inl e)
    unfold badNow at h1
    split
    · exact h.set _ _ (fun j t _ _ e => absurd rfl e)
    · refine h.set _ _ (fun j t hj e hne => ?_)
      have hl := (List.getElem?_eq_some_iff.1 hj).1
      have hp := place_lt (L := L) now name (by omega)
      exact h j _ t _ hj (get_at0 hp) (by rw [place_own (by omega) hj e]; exact e) (by have e' : t.name = name := e; rw [e']; exact hne)
theorem new_at {n i : Nat} {s : Sl} (h : (List.replicate n zeroS)[i]? = some s) : s = zeroS := by
  rw [List.getElem?_replicate] at h
  split at h
  · simpa using h.symm
  · cases h
theorem new_uniq (n : Nat) : Uniq (List.replicate n zeroS) := by
  intro i j s t hs ht e hne
  obtain rfl := new_at hs
  exact absurd rfl hne
theorem new_ok (n : Nat) : okL (List.replicate n zeroS) := by
  intro i s hs
  obtain rfl := new_at hs
  exact zeroS_ok

/-- What is known of a name's slots: each was put so. -/
def Last (L : List Sl) (name : ByteArray) (a : Option (List Ad × Int)) : Prop := ∀ (i : Nat) (s : Sl), L[i]? = some s → s.name = name → name.size ≠ 0 → a = some (s.ads, s.till)
theorem put_other {L : List Sl} {name : ByteArray} {a : Option (List Ad × Int)} (h : Last L name a) (now : Int) (m : ByteArray) (ads : List Ad) (ttl : Int) (hne : m ≠ name) : Last (put L now m ads ttl) name a := by
  intro i s hs e h0
  unfold put at hs
  split at hs
  · exact h i s hs e h0
  · split at hs
    · rw [List.getElem?_set] at hs
      split at hs
      · split at hs
        · simp at hs; subst hs; exact absurd (by rw [← e]; rfl) h0
        · cases hs
      · exact h i s hs e h0
    · rw [List.getElem?_set] at hs
      split at hs
      · split at hs
        · simp at hs; subst hs; exact absurd e hne
        · cases hs
      · exact h i s hs e h0
theorem put_last {L : List Sl} (h : Uniq L) (now : Int) (name : ByteArray) (ads : List Ad) (ttl : Int) (hc : code L now name ads.length ttl = 0) : Last (put L now name ads ttl) name (if ttl = 0 then none else some (ads, now + ttl)) := by
  intro i s hs e h0
  have hb : ¬ (badNow now ∨ badPut name ads.length ttl) := by intro hb; unfold code at hc; rw [if_pos hb] at hc; cases hc
  have h1 : ¬ badNow now := fun e => hb (Or.inl e)
  unfold badNow at h1
  unfold put at hs
  rw [if_neg hb] at hs
  split at hs
  · rename_i ht
    rw [List.getElem?_set] at hs
    split at hs
    · split at hs
      · simp at hs; subst hs; exact absurd (by rw [← e]; rfl) h0
      · cases hs
    · rename_i hne
      have hl := (List.getElem?_eq_some_iff.1 hs).1
      have hf := fidx_least name L i s hs e
      have hfl : fidx name L < L.length := by omega
      exact absurd (h _ _ _ _ (get_at0 hfl) hs (by rw [fidx_at name L _ (get_at0 hfl), e]) (by rw [fidx_at name L _ (get_at0 hfl)]; exact h0)) hne
  · rename_i ht
    rw [if_neg ht]
    rw [List.getElem?_set] at hs
    split at hs
    · split at hs
      · simp at hs; subst hs; rfl
      · cases hs
    · rename_i hne
      have hl := (List.getElem?_eq_some_iff.1 hs).1
      have hp := place_lt (L := L) now name (by omega)
      exact absurd (h _ _ _ _ (get_at0 hp) hs (by rw [place_own (by omega) hs e, e]) (by rw [place_own (by omega) hs e]; exact h0)) hne
theorem got_last {L : List Sl} (hk : okL L) {name : ByteArray} {a : Option (List Ad × Int)} (h : Last L name a) {now : Int} {s : Sl} (hg : got L now name = some s) : a = some (s.ads, s.till) := by
  obtain ⟨h1, h2, h3, h4⟩ := got_spec hg
  refine h _ s h2 h3 (fun e => ?_)
  have := (hk _ s h2).none (by rw [h3]; exact e)
  subst this
  unfold badNow at h1
  have : now < 0 := h4
  omega

/-- As long as there is room: the first i names put, all at one now. -/
structure Room (L : List Sl) (till : Int) (i : Nat) (put' : ByteArray → Prop) : Prop where
  all : ∀ (k : Nat) (s : Sl), L[k]? = some s → s = zeroS ∨ s.till = till
  rest : ∀ (k : Nat) (s : Sl), i ≤ k → L[k]? = some s → s = zeroS
  ne : ∀ n, put' n → n.size ≠ 0
  have_ : ∀ n, put' n → ∃ (k : Nat) (s : Sl), L[k]? = some s ∧ s.name = n
theorem Room.mono {L : List Sl} {till : Int} {i : Nat} {p q : ByteArray → Prop} (h : Room L till i p) (hq : ∀ n, q n → p n) : Room L till (i + 1) q :=
  ⟨h.all, fun k s hk hs => h.rest k s (by omega) hs, fun n hn => h.ne n (hq n hn), fun n hn => h.have_ n (hq n hn)⟩
theorem Room.put {L : List Sl} {till : Int} {i : Nat} {p q : ByteArray → Prop} (h : Room L till i p) (hi : i < L.length) (now ttl : Int) (name : ByteArray) (ads : List Ad) (hn : 0 ≤ now) (ht : 1 ≤ ttl) (hT : till = now + ttl)
    (hc : code L now name ads.length ttl = 0) (hq : ∀ n, q n → p n ∨ n = name) : Room (put L now name ads ttl) till (i + 1) q := by
  have hb : ¬ (badNow now ∨ badPut name ads.length ttl) := by intro hb; unfold code at hc; rw [if_pos hb] at hc; cases hc
  have hname : name.size ≠ 0 := fun e => hb (Or.inr (Or.inl e))
  have hput : Go.Proofs.YtabkelhipmijfaaGreatDoor.Nm.put L now name ads ttl = L.set (place L now name) ⟨name, now + ttl, ads⟩ := by
    unfold Go.Proofs.YtabkelhipmijfaaGreatDoor.Nm.put
    rw [if_neg hb, if_neg (by omega)]
  rw [hput]
  have hp := place_lt (L := L) now name (by omega)
  obtain ⟨b1, b2, b3⟩ := best_spec (rk L now name) (L.length - 1)
  have hz : at0 L i = zeroS := h.rest i _ (Nat.le_refl _) (get_at0 hi)
  have hri : rk L now name i = -1 := by
    unfold rk rank
    rw [hz, if_neg (fun e => hname (by rw [← e]; rfl)), if_neg (by show ¬ now < 0; omega)]
  have hrp : rk L now name (place L now name) ≤ -1 := by rw [← hri]; exact b2 i (by omega)
  have hpi : place L now name ≤ i := by
    rcases Nat.lt_or_ge i (place L now name) with h1 | h1
    · have h2 := b3 i h1
      have h3 := rank_ge now name (at0 L (place L now name)) hn
      have h4 : rank now name (at0 L (place L now name)) = -2 := by
        have : rk L now name (place L now name) < -1 := by rw [← hri]; exact h2
        have h5 : rk L now name (place L now name) = rank now name (at0 L (place L now name)) := rfl
        omega
      have h5 := own_rank hn h4
      have h6 := h.rest (place L now name) _ (by omega) (get_at0 hp)
      rw [h6] at h5
      exact absurd (by rw [← h5]; rfl) hname
    · exact h1
  have hold : (at0 L (place L now name)).name = name ∨ at0 L (place L now name) = zeroS := by
    by_cases e : (at0 L (place L now name)).name = name
    · exact Or.inl e
    · right
      rcases h.all _ _ (get_at0 hp) with h1 | h1
      · exact h1
      · exfalso
        have h5 : rk L now name (place L now name) = rank now name (at0 L (place L now name)) := rfl
        unfold rank at h5
        rw [if_neg e, if_pos (by omega)] at h5
        omega
  refine ⟨fun k s hs => ?_, fun k s hk hs => ?_, fun n hn' => (hq n hn').elim (fun h1 => h.ne n h1) (fun e => by rw [e]; exact hname), fun n hn' => ?_⟩
  · rw [List.getElem?_set] at hs
    by_cases hk : place L now name = k
    · rw [if_pos hk, if_pos hp] at hs
      simp at hs; subst hs; right; exact hT.symm
    · rw [if_neg hk] at hs
      exact h.all k s hs
  · rw [List.getElem?_set, if_neg (by omega)] at hs
    exact h.rest k s (by omega) hs
  · by_cases e : n = name
    · exact ⟨place L now name, ⟨name, now + ttl, ads⟩, by rw [List.getElem?_set, if_pos rfl, if_pos hp], e.symm⟩
    · rcases hq n hn' with h1 | h1
      · obtain ⟨k, s, hs, e2⟩ := h.have_ n h1
        by_cases hk : place L now name = k
        · subst hk
          have hs' := at0_of hs
          rcases hold with h2 | h2
          · exact absurd (by rw [← e2, ← hs', h2]) e
          · exact absurd (by rw [← e2, ← hs', h2]; rfl) (h.ne n h1)
        · exact ⟨k, s, by rw [List.getElem?_set, if_neg hk]; exact hs, e2⟩
      · exact absurd h1 e
end Go.Proofs.YtabkelhipmijfaaGreatDoor.Nm
