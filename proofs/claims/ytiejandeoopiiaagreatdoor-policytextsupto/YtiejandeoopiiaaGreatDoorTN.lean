/-
  What the reference reads of a text, in numbers: the same that is meant; no program.
-/
import Derived.Test.YtiejandeoopiiaaGreatDoorRI
import Derived.Test.YtiejandeoopiiaaGreatDoorK
set_option linter.unusedSimpArgs false
set_option linter.unusedVariables false
namespace Go.Proofs.YtiejandeoopiiaaGreatDoor
open Go.RowKit
/-- A text cut at each place of a byte. -/
def wrd (c : Nat) : List Nat → List (List Nat)
  | [] => [[]]
  | x :: r => if x = c then [] :: wrd c r else ((x :: (wrd c r).headD []) :: (wrd c r).tail)
theorem wrd_ne (c : Nat) : ∀ l, wrd c l ≠ []
  | [] => by simp [wrd]
  | x :: r => by unfold wrd; split <;> simp
theorem wrd_one {c : Nat} : ∀ (p : List Nat), c ∉ p → wrd c p = [p]
  | [], _ => rfl
  | x :: p, h => by
    simp at h
    unfold wrd
    rw [if_neg (fun e => h.1 e.symm), wrd_one p h.2]
    rfl
theorem wrd_app {c : Nat} : ∀ (p l : List Nat), c ∉ p → wrd c (p ++ c :: l) = p :: wrd c l
  | [], l, _ => by show wrd c (c :: l) = _; rw [wrd, if_pos rfl]
  | x :: p, l, h => by
    simp at h
    show wrd c (x :: (p ++ c :: l)) = _
    rw [wrd, if_neg (fun e => h.1 e.symm), wrd_app p l h.2]
    rfl
theorem wrd_cons {c : Nat} : ∀ (l p : List Nat) (ps : List (List Nat)), wrd c l = p :: ps → c ∉ p ∧ ((ps = [] ∧ l = p) ∨ ∃ m, l = p ++ c :: m ∧ wrd c m = ps)
  | [], p, ps, h => by
    simp [wrd] at h
    obtain ⟨rfl, rfl⟩ := h
    exact ⟨by simp, Or.inl ⟨rfl, rfl⟩⟩
  | x :: l, p, ps, h => by
    unfold wrd at h
    split at h
    · rename_i e
      subst e
      simp at h
      obtain ⟨rfl, rfl⟩ := h
      exact ⟨by simp, Or.inr ⟨l, rfl, rfl⟩⟩
    · rename_i e
      cases hw : wrd c l with
      | nil => exact absurd hw (wrd_ne c l)
      | cons q qs =>
        rw [hw] at h
        simp at h
        obtain ⟨rfl, rfl⟩ := h
        obtain ⟨h1, h2⟩ := wrd_cons l q qs hw
        refine ⟨by simp; exact ⟨fun e' => e e'.symm, h1⟩, ?_⟩
        rcases h2 with ⟨rfl, rfl⟩ | ⟨m, rfl, hm⟩
        · exact Or.inl ⟨rfl, rfl⟩
        · exact Or.inr ⟨m, rfl, hm⟩
theorem wrd_1 {c : Nat} {l p : List Nat} (h : wrd c l = [p]) : l = p ∧ c ∉ p := by
  obtain ⟨h1, ⟨_, h2⟩ | ⟨m, _, h2⟩⟩ := wrd_cons _ _ _ h
  · exact ⟨h2, h1⟩
  · exact absurd h2 (wrd_ne c m)
theorem wrd_2 {c : Nat} {l p q : List Nat} (h : wrd c l = [p, q]) : l = p ++ c :: q := by
  obtain ⟨h1, ⟨h2, _⟩ | ⟨m, h3, h2⟩⟩ := wrd_cons _ _ _ h
  · cases h2
  · rw [h3, (wrd_1 h2).1]
theorem wrd_3 {c : Nat} {l p q r : List Nat} (h : wrd c l = [p, q, r]) : l = p ++ c :: (q ++ c :: r) := by
  obtain ⟨h1, ⟨h2, _⟩ | ⟨m, h3, h2⟩⟩ := wrd_cons _ _ _ h
  · cases h2
  · rw [h3, wrd_2 h2]
theorem wh_dec5 {n : Nat} (h : n ≤ 65535) : wh (dec n) 5 = some n := by
  unfold wh
  rw [val_dec, if_pos ⟨isNum_dec n, dec_len (by omega)⟩]
theorem wh_dec2 {n : Nat} (h : n ≤ 32) : wh (dec n) 2 = some n := by
  have hl : (dec n).length ≤ 2 := by
    by_cases h1 : n < 10
    · rw [dec_small h1]; simp
    · rw [dec_two h1 (by omega)]; simp
  unfold wh
  rw [val_dec, if_pos ⟨isNum_dec n, hl⟩]
theorem wh_back {l : List Nat} {d n : Nat} (h : wh l d = some n) : dec n = l := by
  unfold wh at h
  split at h
  · rename_i hh
    obtain rfl := Option.some.inj h
    exact dec_val _ l rfl hh.1
  · cases h
/-- The reference's ports. -/
def porR (t : List Nat) : Option (Nat × Nat) := match wrd 45 t with
  | [a] => (wh a 5).map fun n => (n, n)
  | [a, b] => (wh a 5).bind fun n => (wh b 5).bind fun m => if m = n then none else some (n, m)
  | _ => none
/-- The reference's net or suffix. -/
def tarR (t : List Nat) : Option (Ad × Int × ByteArray) := match wrd 47 t with
  | [a, b] => if (addr a).2 = .ok then (wh b 2).map fun (n : Nat) => (adOf (addr a).1, (n : Int), ⟨#[]⟩) else none
  | _ => if t = [] then none else some ((0, 0, 0, 0), 0, strN t)
def mkR (v : List Nat) (p : Nat × Nat) (t : Ad × Int × ByteArray) : Ru := ⟨decide (v = allowT), t.1, t.2.1, t.2.2, (p.1 : Nat), (p.2 : Nat)⟩
/-- The reference's Parse. -/
def rprs (s : List Nat) : Option Ru := if 285 < s.length then none else match wrd 32 s with
  | [v, t, p] => if v = allowT ∨ v = denyT then (porR p).bind fun q => (tarR t).bind fun z => if (mkR v q z).right = true then some (mkR v q z) else none else none
  | _ => none
theorem porR_back {t : List Nat} {n m : Nat} (h : porR t = some (n, m)) : t = if n = m then dec n else dec n ++ 45 :: dec m := by
  unfold porR at h
  split at h
  · rename_i a e
    simp only [Option.map_eq_some_iff] at h
    obtain ⟨k, h1, h2⟩ := h
    obtain ⟨rfl, rfl⟩ := Prod.mk.inj h2
    rw [if_pos rfl, wh_back h1, (wrd_1 e).1]
  · rename_i a b e
    simp only [Option.bind_eq_some_iff] at h
    obtain ⟨k, h1, j, h2, h3⟩ := h
    split at h3
    · cases h3
    · rename_i hne
      obtain ⟨rfl, rfl⟩ := Prod.mk.inj (Option.some.inj h3)
      rw [if_neg (fun e => hne e.symm), wh_back h1, wh_back h2, wrd_2 e]
  · cases h
theorem tarR_back {t : List Nat} {a : Ad} {k : Int} {z : ByteArray} (hlt : ∀ x ∈ t, x < 256) (h : tarR t = some (a, k, z)) : a.ok ∧ t = if byt z = [] then adt a ++ 47 :: dec k.toNat else byt z := by
  have h2' : tarR t = some (a, k, z) → (∀ p q, wrd 47 t ≠ [p, q]) → a.ok ∧ t = if byt z = [] then adt a ++ 47 :: dec k.toNat else byt z := by
    intro h hne
    unfold tarR at h
    split at h
    · rename_i e; exact absurd e (hne _ _)
    · split at h
      · cases h
      · rename_i hn
        have g := Option.some.inj h
        simp only [Prod.mk.injEq] at g
        obtain ⟨g1, g2, g3⟩ := g
        rw [← g1, ← g3, byt_strN _ hlt, if_neg hn]
        exact ⟨by simp [Ad.ok], rfl⟩
  by_cases hh : ∃ p q, wrd 47 t = [p, q]
  · obtain ⟨p, q, e⟩ := hh
    unfold tarR at h
    rw [e] at h
    simp only [] at h
    split at h
    · rename_i hok
      simp only [Option.map_eq_some_iff] at h
      obtain ⟨n, h1, h2⟩ := h
      simp only [Prod.mk.injEq] at h2
      obtain ⟨q1, q2, q3⟩ := h2
      rw [← q1, ← q2, ← q3]
      have hl := addr_len p
      obtain ⟨x0, x1, x2, x3, hx⟩ : ∃ x0 x1 x2 x3, (addr p).1 = [x0, x1, x2, x3] := by
        match hh : (addr p).1, hl with
        | [x0, x1, x2, x3], _ => exact ⟨x0, x1, x2, x3, rfl⟩
      obtain ⟨g1, g2⟩ := addr_back (l := p) (Prod.ext hx hok)
      have hz : byt (⟨#[]⟩ : ByteArray) = [] := rfl
      rw [hz, if_pos rfl, hx]
      refine ⟨g2, ?_⟩
      show t = adt (x0, x1, x2, x3) ++ 47 :: dec (n : Int).toNat
      rw [g1, Int.toNat_natCast, wh_back h1, wrd_2 e]
    · cases h
  · exact h2' h fun p q e => hh ⟨p, q, e⟩
theorem rprs_back {s : List Nat} {r : Ru} (hlt : ∀ x ∈ s, x < 256) (h : rprs s = some r) : r.right = true ∧ r.net.ok ∧ prt r = s := by
  unfold rprs at h
  split at h
  · cases h
  · split at h
    · rename_i v t p e
      split at h
      · rename_i hv
        simp only [Option.bind_eq_some_iff] at h
        obtain ⟨⟨n, m⟩, h1, ⟨a, k, z⟩, h2, h3⟩ := h
        split at h3
        · rename_i hr
          obtain rfl := Option.some.inj h3
          have es := wrd_3 e
          have htl : ∀ x ∈ t, x < 256 := fun x hx => hlt x (by rw [es]; simp [hx])
          obtain ⟨g1, g2⟩ := tarR_back htl h2
          have g3 := porR_back h1
          refine ⟨hr, g1, ?_⟩
          have ev : verT (mkR v (n, m) (a, k, z)) = v := by
            show (if decide (v = allowT) = true then allowT else denyT) = v
            rcases hv with e1 | e1 <;> rw [e1] <;> decide
          have et : tarT (mkR v (n, m) (a, k, z)) = t := g2.symm
          have ep : porT (mkR v (n, m) (a, k, z)) = p := by
            rw [g3]
            show (if ((n : Nat) : Int) = ((m : Nat) : Int) then dec ((n : Nat) : Int).toNat else dec ((n : Nat) : Int).toNat ++ 45 :: dec ((m : Nat) : Int).toNat) = _
            rw [Int.toNat_natCast, Int.toNat_natCast]
            by_cases hnm : n = m
            · rw [if_pos hnm, if_pos (by rw [hnm])]
            · rw [if_neg hnm, if_neg (by omega)]
          unfold prt
          rw [ev, et, ep, es]
        · cases h3
      · cases h
    · cases h
theorem rprs_prt {r : Ru} (h : r.right = true) (ha : r.net.ok) : rprs (prt r) = some r := by
  obtain ⟨h1, h2, h3, h4⟩ := right_parts h
  have hl := prt_len h ha
  have ew : wrd 32 (prt r) = [verT r, tarT r, porT r] := by
    unfold prt
    rw [wrd_app _ _ (ver_no r), wrd_app _ _ (tarT_no h), wrd_one _ (por_no r)]
  have ep : porR (porT r) = some (r.lw.toNat, r.hg.toNat) := by
    unfold porR porT
    by_cases e : r.lw = r.hg
    · rw [if_pos e, wrd_one _ (dec_no _ (by omega))]
      simp only []
      rw [wh_dec5 (by omega), e]
      rfl
    · rw [if_neg e, wrd_app _ _ (dec_no _ (by omega)), wrd_one _ (dec_no _ (by omega))]
      simp only []
      rw [wh_dec5 (by omega), wh_dec5 (by omega)]
      show (if r.hg.toNat = r.lw.toNat then none else some (r.lw.toNat, r.hg.toNat)) = _
      rw [if_neg (by omega)]
  have et : tarR (tarT r) = some (r.net, r.bits, r.suf) := by
    rcases h4 with ⟨hs, b1, b2⟩ | ⟨hs, b1, b2, b3⟩
    · have hno : 47 ∉ adt r.net := fun hx => by have := adt_mem _ _ hx; omega
      unfold tarR tarT
      rw [if_pos hs, wrd_app _ _ hno, wrd_one _ (dec_no _ (by omega))]
      simp only []
      rw [addr_adt _ ha, wh_dec2 (by omega)]
      have : r.suf = ⟨#[]⟩ := by rw [← strN_byt r.suf, hs]; rfl
      rw [this]
      rw [if_pos rfl, Option.map_some, show ((r.bits.toNat : Nat) : Int) = r.bits by omega]
      rfl
    · have hno : 47 ∉ byt r.suf := fun hx => by
        rcases name_lb b3 47 hx with e | e
        · omega
        · exact (lb_no e).2 rfl
      unfold tarR tarT
      rw [if_neg hs, wrd_one _ hno]
      simp only []
      rw [if_neg hs, b1, b2, strN_byt]
  have hv : verT r = allowT ∨ verT r = denyT := by unfold verT; split <;> simp
  have em : mkR (verT r) (r.lw.toNat, r.hg.toNat) (r.net, r.bits, r.suf) = r := by
    refine Ru.eq ?_ rfl rfl rfl (by show ((r.lw.toNat : Nat) : Int) = r.lw; omega) (by show ((r.hg.toNat : Nat) : Int) = r.hg; omega)
    show decide (verT r = allowT) = r.al
    unfold verT
    cases r.al <;> decide
  unfold rprs
  rw [if_neg (by omega), ew]
  simp only []
  rw [if_pos hv, ep, et]
  simp only [Option.bind_some]
  rw [em, if_pos h]
/-- Both read the same. -/
theorem rprs_eq {s : List Nat} (hlt : ∀ x ∈ s, x < 256) : rprs s = prs s := by
  cases e : rprs s with
  | some r =>
    obtain ⟨h1, h2, h3⟩ := rprs_back hlt e
    rw [← h3, prs_prt h1 h2]
  | none =>
    cases e2 : prs s with
    | none => rfl
    | some r =>
      obtain ⟨h1, h2, h3, h4⟩ := prs_some e2
      have hok : r.net.ok := by
        rw [h4]
        exact (meant_ok s h1).1
      rw [← h3, rprs_prt h2 hok] at e
      cases e
end Go.Proofs.YtiejandeoopiiaaGreatDoor
