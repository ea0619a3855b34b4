/-
  What is told for a key is what was put last under it: what the statement does; conditions as each theorem has them.
-/
import Derived.Test.YtcihkdmndpdmoaaT
set_option linter.unusedSimpArgs false
set_option linter.unusedVariables false
namespace Go.Proofs.Ytcihkdmndpdmoaa
open Go.RowKit
/-- A slot but for whether it was asked for. -/
abbrev core (s : Sl) : ByteArray × ByteArray × Int × Int := (s.key, s.bs, s.at_, s.age)
theorem core_set (L : List Sl) (i : Nat) (x : Sl) (h : core x = core (at0 L i)) : (L.set i x).map core = L.map core := by
  rw [List.map_set]
  apply List.ext_getElem?
  intro j
  rw [List.getElem?_set]
  split
  · rename_i e
    subst e
    split
    · rename_i hl
      simp at hl
      rw [h, List.getElem?_map, get_at0 hl]; rfl
    · rename_i hl
      simp at hl
      rw [List.getElem?_eq_none (by simpa using hl)]
  · rfl
theorem spin_core (now : Int) : ∀ (k : Nat) (L : List Sl) (h : Nat), (spin now k L h).1.map core = L.map core
  | 0, L, h => rfl
  | k + 1, L, h => by
    unfold spin
    split
    · rw [spin_core now k]; exact core_set L h { at0 L h with asked := false } rfl
    · rfl
theorem place_core (L : List Sl) (h : Nat) (now : Int) (key : ByteArray) : (place L h now key).1.map core = L.map core := by
  unfold place
  split
  · rfl
  · split
    · rfl
    · exact spin_core now _ L h
theorem of_core {L K : List Sl} (h : L.map core = K.map core) {i : Nat} {s : Sl} (hs : L[i]? = some s) : ∃ t, K[i]? = some t ∧ core t = core s := by
  have : (L.map core)[i]? = some (core s) := by simp [hs]
  rw [h] at this
  simpa [List.getElem?_map, Option.map_eq_some_iff] using this
/-- What is known of a key's slots: each was put so. -/
def Last (L : List Sl) (key : ByteArray) (a : Option (ByteArray × Int × Int)) : Prop := ∀ (i : Nat) (s : Sl), L[i]? = some s → s.key = key → key.size ≠ 0 → a = some (s.bs, s.at_, s.age)
theorem Last.core {L K : List Sl} {key : ByteArray} {a : Option (ByteArray × Int × Int)} (h : Last L key a) (e : K.map core = L.map core) : Last K key a := by
  intro i s hs hk h0
  obtain ⟨t, ht, et⟩ := of_core e hs
  simp only [Ytcihkdmndpdmoaa.core, Prod.mk.injEq] at et
  obtain ⟨e1, e2, e3, e4⟩ := et
  rw [← e2, ← e3, ← e4]
  exact h i t ht (e1.trans hk) h0
theorem put_other {K : Nat} {L : List Sl} {h : Nat} {key : ByteArray} {a : Option (ByteArray × Int × Int)} (hl : Last L key a) (now : Int) (m : ByteArray) (b : ByteArray) (age : Int) (hne : m ≠ key) : Last (put K L h now m b age).1 key a := by
  by_cases hc : code K L now m b.size age = 0
  · rw [put_good hc]
    unfold putS
    intro i s hs e h0
    rw [List.getElem?_set] at hs
    split at hs
    · split at hs
      · simp at hs; subst hs; exact absurd e hne
      · cases hs
    · exact (hl.core (place_core L h now m)) i s hs e h0
  · rw [put_bad hc]; exact hl
theorem put_last {K : Nat} {L : List Sl} {h : Nat} (i : Inv K L h) (now : Int) (key : ByteArray) (b : ByteArray) (age : Int) (hc : code K L now key b.size age = 0) : Last (put K L h now key b age).1 key (some (b, now, age)) := by
  have hi := put_inv i now key b age
  obtain ⟨_, p2, p3, _⟩ := place_inv now key i (code_ok hc).2.2
  rw [put_good hc] at hi ⊢
  unfold putS at hi ⊢
  intro j s hs e h0
  have hp : ((place L h now key).1.set (place L h now key).2.2 ⟨key, b, now, age, false⟩)[(place L h now key).2.2]? = some ⟨key, b, now, age, false⟩ := by
    rw [List.getElem?_set, if_pos rfl, if_pos (by rw [nms_len p2]; exact p3)]
  have := hi.uniq j _ s _ hs hp e (by rw [e]; exact h0)
  subst this
  rw [hp] at hs
  simp at hs
  subst hs
  rfl
theorem drop_other {L : List Sl} {key : ByteArray} {a : Option (ByteArray × Int × Int)} (hl : Last L key a) (m : ByteArray) : Last (dropL L m) key a := by
  unfold dropL
  split
  · intro i s hs e h0
    rw [List.getElem?_set] at hs
    split at hs
    · split at hs
      · simp at hs; subst hs; exact absurd (by rw [← e]; rfl) h0
      · cases hs
    · exact hl i s hs e h0
  · exact hl
theorem drop_last {L : List Sl} (hU : Uniq L) (key : ByteArray) : Last (dropL L key) key none := by
  intro i s hs e h0
  unfold dropL at hs
  split at hs
  · rename_i hin
    have hlt := (isIn_iff.1 hin).2
    rw [List.getElem?_set] at hs
    by_cases hne : fidx key L = i
    · rw [if_pos hne, if_pos (by omega)] at hs
      simp at hs; subst hs; exact absurd (by rw [← e]; rfl) h0
    · rw [if_neg hne] at hs
      have := hU.fidx hs (by rw [e]; exact h0)
      rw [e] at this
      exact absurd this hne
  · rename_i hin
    exfalso
    apply hin
    have := fidx_least key L i s hs e
    have := (List.getElem?_eq_some_iff.1 hs).1
    exact isIn_iff.2 ⟨h0, by omega⟩
theorem got_last {L : List Sl} {key : ByteArray} {a : Option (ByteArray × Int × Int)} (h : Last L key a) {now : Int} {s : Sl} (hg : got L now key = some s) : a = some (s.bs, s.at_, s.age) := by
  obtain ⟨h1, h2, h3, h4⟩ := got_spec hg
  exact h _ s h2 h3 (fun e => h1 (Or.inr (Or.inl e)))
/-- What is known of the last Put of a key, that lies at la. -/
def Known (f : Nat → Ac) (key : ByteArray) (i : Nat) (la : Int) (L : List Sl) : Prop :=
  (la = -1 ∧ Last L key none) ∨ ∃ p : Nat, p < i ∧ la = p ∧ 0 ≤ (f p).now ∧ (f p).now ≤ 1099511627776 ∧ 1 ≤ (f p).age ∧ (f p).age ≤ 1048576 ∧ Last L key (some (strN (f p).l, (f p).now, (f p).age))
theorem Known.step {f : Nat → Ac} {key : ByteArray} {i : Nat} {la : Int} {L K : List Sl} (h : Known f key i la L) (hk : ∀ a, Last L key a → Last K key a) : Known f key (i + 1) la K := by
  rcases h with ⟨h1, h2⟩ | ⟨p, hp, h1, h2, h3, h4, h5, h6⟩
  · exact Or.inl ⟨h1, hk _ h2⟩
  · exact Or.inr ⟨p, by omega, h1, h2, h3, h4, h5, hk _ h6⟩
theorem Known.put {f : Nat → Ac} {key : ByteArray} {i : Nat} {la : Int} {L : List Sl} {K h : Nat} (hn : Known f key i la L) (now : Int) (m : ByteArray) (b : ByteArray) (age : Int) (hne : m ≠ key ∨ code K L now m b.size age ≠ 0) : Known f key (i + 1) la (put K L h now m b age).1 :=
  hn.step (fun a ha => by
    rcases hne with hne | hne
    · exact put_other ha now m b age hne
    · rw [put_bad hne]; exact ha)
theorem Known.own {f : Nat → Ac} {key : ByteArray} {i : Nat} {L : List Sl} {K h : Nat} (hI : Inv K L h) {x : Ac} (hx : x = f i) (hn : x.key = key) (hl : x.l.length = x.n) (hc : code K L x.now x.key x.n x.age = 0) : Known f key (i + 1) i (Ytcihkdmndpdmoaa.put K L h x.now x.key (strN x.l) x.age).1 := by
  obtain ⟨hb, _, _⟩ := code_ok hc
  have h1 : ¬ badNow x.now := fun e => hb (Or.inl e)
  have h3 : ¬ badAge x.age := fun e => hb (Or.inr (Or.inr e))
  unfold badNow at h1
  unfold badAge at h3
  have := put_last hI x.now x.key (strN x.l) x.age (by rw [strN_size, hl]; exact hc)
  rw [hn] at this
  subst hx
  exact Or.inr ⟨i, by omega, rfl, by omega, by omega, by omega, by omega, by rw [hn]; exact this⟩
theorem Known.got {f : Nat → Ac} {key : ByteArray} {i : Nat} {la : Int} {L : List Sl} (h : Known f key i la L) {now : Int} {s : Sl} (hg : Ytcihkdmndpdmoaa.got L now key = some s) : ∃ p : Nat, p < i ∧ la = p ∧ 0 ≤ (f p).now ∧ (f p).now ≤ 1099511627776 ∧ 1 ≤ (f p).age ∧ (f p).age ≤ 1048576 ∧ s.bs = strN (f p).l ∧ s.at_ = (f p).now ∧ s.age = (f p).age := by
  rcases h with ⟨h1, h2⟩ | ⟨p, hp, h1, h2, h3, h4, h5, h6⟩
  · have := got_last h2 hg; cases this
  · have := got_last h6 hg
    simp only [Option.some.injEq, Prod.mk.injEq] at this
    exact ⟨p, hp, h1, h2, h3, h4, h5, this.1.symm, this.2.1.symm, this.2.2.symm⟩
theorem new_last (n : Nat) (key : ByteArray) : Last (List.replicate n zeroS) key none := fun i s hs e h0 => by obtain rfl := new_at hs; exact absurd (by rw [← e]; rfl) h0
set_option maxRecDepth 100000 in
set_option maxHeartbeats 8000000 in
theorem fresh_walk (s : Int) (a : Option Addr) (len cap : Nat) (f : Nat → Ac) (now : Int) (key : ByteArray) (w : World) (hA : IsActs w a len cap f) (_ : key.size ≤ maxLen) : Calls Try.prog 4 #[.int .i64 s, .slice a len cap, .int .i64 now, .string key] w fun e w' => e = .returned (.bool true) ∧ Below w.heap.size w w' := by
  obtain ⟨hlc, hcm, hI⟩ := hA
  have HA := hide hI
  clear hI
  go_enter Try.func4, Try.ntmps4
  go_wp2_with fail
  refine (works_at w).mono ?_
  rintro e w1 ⟨rfl, k1⟩
  have K1 := hide k1
  clear k1
  go_wp2_with fail
  refine (among s 20 (by omega) (by omega) w1).mono ?_
  rintro e w2 ⟨N, hN, rfl, rfl⟩
  go_wp2_with fail
  refine (new_good N 64 w1 (by omega) (by omega) (by omega)).mono ?_
  rintro e w3 ⟨rfl, h3, k3⟩
  have K3 := hide (K1.out.trans (k3.mono K1.out.size))
  have H3 := hide h3
  have hw1 : w.heap.size ≤ w1.heap.size := K1.out.size
  clear h3 k3 K1
  obtain ⟨r, hr⟩ : ∃ r, r = w1.heap.size + 1 := ⟨_, rfl⟩
  obtain ⟨g, hg⟩ : ∃ g, g = w1.heap.size := ⟨_, rfl⟩
  rw [← hr, ← hg] at H3
  rw [← hr]
  have hrB : w.heap.size ≤ r := by omega
  have hgB : w.heap.size ≤ g := by omega
  clear hr hg hw1
  go_wp2_with fail
  go_loopw [11, 12] (fun u v wr => ∃ (i : Nat) (la : Int) (L : List Sl) (h : Nat), i ≤ len ∧ -1 ≤ la ∧ la < i ∧ v = .int .i64 i ∧ u = .int .i64 la ∧ Hid (IsTab wr r g 64 L h) ∧ Hid (Known f key i la L) ∧ Hid (Below w.heap.size w wr)) (fun _ v _ => len - (intOf v).toNat)
  case atStart => exact ⟨0, -1, _, 0, Nat.zero_le _, by omega, by omega, rfl, rfl, H3, Or.inl ⟨rfl, new_last _ _⟩, K3⟩
  case round =>
    clear H3 K3
    obtain ⟨i, la, L, h, hi, hl1, hl2, rfl, rfl, HT, HKN, HB⟩ := hrel
    by_cases hil : i < len
    · have hd : decide ((i : Int) < (len : Int)) = true := decide_eq_true (by omega)
      obtain ⟨b, o, rfl, hX, hOf⟩ := acts_at HA.out HB.out hil
      obtain ⟨x, hxx⟩ : ∃ x, x = f i := ⟨_, rfl⟩
      rw [← hxx] at hX hOf
      obtain ⟨e0, e1, e2, e3, e4, hsrc, hlen, hin1, hin2⟩ := hX
      have HOW : Hid (x.key = key → code 64 L x.now x.key x.n x.age = 0 → Known f key (i + 1) i (put 64 L h x.now x.key (strN x.l) x.age).1) := fun hn hc => Known.own HT.out.inv hxx hn hsrc.hlen hc
      have HOT : Hid ((x.key ≠ key ∨ code 64 L x.now x.key x.n x.age ≠ 0) → Known f key (i + 1) la (put 64 L h x.now x.key (strN x.l) x.age).1) := fun hn => HKN.out.put _ _ _ _ (by rw [strN_size, hsrc.hlen]; exact hn)
      have HDO : Hid (x.key = key → Known f key (i + 1) (-1) (dropL L x.key)) := fun hn => by rw [hn]; exact Or.inl ⟨rfl, drop_last HT.out.inv.uniq key⟩
      have HDT : Hid (Known f key (i + 1) la (dropL L x.key)) := HKN.out.step (fun a ha => drop_other ha _)
      clear hxx HKN
      obtain ⟨xk, xnow, xage, xkey, xa, xn, xc, xl⟩ := x
      simp only at e0 e1 e2 e3 e4 hsrc hlen hin1 hin2 HOW HOT HDO HDT hOf
      have hbx : Below wr.heap.size wr (wr.alloc (.cells #[.int .i64 xk, .int .i64 xnow, .int .i64 xage, .string xkey, .slice xa xn xc] 32)) := (Below.refl _ _).alloc (Nat.le_refl _) _
      obtain ⟨W, hW⟩ : ∃ W, W = wr.alloc (.cells #[.int .i64 xk, .int .i64 xnow, .int .i64 xage, .string xkey, .slice xa xn xc] 32) := ⟨_, rfl⟩
      rw [← hW] at hbx
      have hbk : W.heap[wr.heap.size]? = some (.cells #[.int .i64 xk, .int .i64 xnow, .int .i64 xage, .string xkey, .slice xa xn xc] 32) := by rw [hW]; exact alloc_new _ _
      have HW := hide hW.symm
      have BK := hide hbk
      have TW := hide (HT.out.below hbx)
      have SW := hide (hsrc.below hbx)
      have BW := hide (HB.out.trans (hbx.mono HB.out.size))
      have LW : Hid (r ≠ wr.heap.size ∧ g ≠ wr.heap.size) := ⟨by have := HT.out.lt.1; omega, by have := HT.out.lt.2; omega⟩
      have OF : Hid (Off xa xn r ∧ Off xa xn g) := ⟨fun h0 b' o' e' => by have := hOf (by omega) b' o' e'; omega, fun h0 b' o' e' => by have := hOf (by omega) b' o' e'; omega⟩
      clear hW hbx hbk hsrc hlen hin1 hin2 HT HB hOf
      have g0 : W.cell? ⟨wr.heap.size, 0, none⟩ = some (.int .i64 xk) := by simp [World.cell?, BK.out]
      have g1 : W.cell? ⟨wr.heap.size, 1, none⟩ = some (.int .i64 xnow) := by simp [World.cell?, BK.out]
      have g2 : W.cell? ⟨wr.heap.size, 2, none⟩ = some (.int .i64 xage) := by simp [World.cell?, BK.out]
      have g3 : W.cell? ⟨wr.heap.size, 3, none⟩ = some (.string xkey) := by simp [World.cell?, BK.out]
      have g4 : W.cell? ⟨wr.heap.size, 4, none⟩ = some (.slice xa xn xc) := by simp [World.cell?, BK.out]
      go_wp2_with fail
      rw [HW.out]
      refine (among xk 6 (by omega) (by omega) W).mono ?_
      rintro e w4 ⟨kk, hkk, rfl, rfl⟩
      by_cases hk4 : kk = 4
      · have q4 : (((kk : Nat) : Int) == 4) = true := by simp [hk4]
        clear hk4
        have HD := hide (drop_at r g 64 h L xkey W TW.out)
        go_wp2_with fail
        refine HD.out.mono ?_
        rintro e w5 ⟨rfl, t5, k5⟩
        have T5 := hide t5
        have K5 := hide (k5.belowT BW.out hgB hgB)
        have b5 : w5.heap[wr.heap.size]? = some (.cells #[.int .i64 xk, .int .i64 xnow, .int .i64 xage, .string xkey, .slice xa xn xc] 32) := k5.at_ BK.out (Ne.symm LW.out.2) (Ne.symm LW.out.2)
        have c3' : w5.cell? ⟨wr.heap.size, 3, none⟩ = some (.string xkey) := by simp [World.cell?, b5]
        clear t5 k5 b5
        by_cases hnm : xkey = key
        · have z1 : (xkey.toList == key.toList) = true := by rw [eq_ba]; simp [hnm]
          have HKN2 := hide (HDO.out hnm)
          clear hnm
          go_wp2_with fail
          go_roundw
          case rel => exact ⟨i + 1, -1, dropL L xkey, h, by omega, by omega, by omega, by go_num, rfl, T5, HKN2, K5⟩
          case measure => simp [intOf]; omega
        · have z1 : (xkey.toList == key.toList) = false := by rw [eq_ba]; simp [hnm]
          clear hnm
          go_wp2_with fail
          go_roundw
          case rel => exact ⟨i + 1, la, dropL L xkey, h, by omega, by omega, by omega, by go_num, rfl, T5, HDT, K5⟩
          case measure => simp [intOf]; omega
      · have q4 : (((kk : Nat) : Int) == 4) = false := by simp; omega
        clear hk4
        have HP := hide (put_at r g 64 h L xnow xkey xa xn xc xl xage W TW.out SW.out OF.out)
        obtain ⟨C, hC⟩ : ∃ C, C = code 64 L xnow xkey xn xage := ⟨_, rfl⟩
        rw [← hC] at HP HOW HOT
        obtain ⟨L2, hL2⟩ : ∃ L2, L2 = (put 64 L h xnow xkey (strN xl) xage).1 := ⟨_, rfl⟩
        obtain ⟨h2, hh2⟩ : ∃ h2, h2 = (put 64 L h xnow xkey (strN xl) xage).2 := ⟨_, rfl⟩
        rw [← hL2, ← hh2] at HP
        rw [← hL2] at HOW HOT
        clear hC hL2 hh2
        go_wp2_with fail
        refine HP.out.mono ?_
        rintro e w5 ⟨rfl, t5, k5⟩
        have T5 := hide t5
        have K5 := hide (k5.belowT BW.out hrB hgB)
        have b5 : w5.heap[wr.heap.size]? = some (.cells #[.int .i64 xk, .int .i64 xnow, .int .i64 xage, .string xkey, .slice xa xn xc] 32) := k5.at_ BK.out (Ne.symm LW.out.1) (Ne.symm LW.out.2)
        have c3' : w5.cell? ⟨wr.heap.size, 3, none⟩ = some (.string xkey) := by simp [World.cell?, b5]
        clear t5 k5 b5
        by_cases hC0 : C = 0
        · subst hC0
          by_cases hnm : xkey = key
          · have z1 : (xkey.toList == key.toList) = true := by rw [eq_ba]; simp [hnm]
            have HKN2 := hide (HOW.out hnm rfl)
            clear hnm
            go_wp2_with fail
            go_roundw
            case rel => exact ⟨i + 1, i, L2, h2, by omega, by omega, by omega, by go_num, rfl, T5, HKN2, K5⟩
            case measure => simp [intOf]; omega
          · have z1 : (xkey.toList == key.toList) = false := by rw [eq_ba]; simp [hnm]
            have HKN2 := hide (HOT.out (Or.inl hnm))
            clear hnm
            go_wp2_with fail
            go_roundw
            case rel => exact ⟨i + 1, la, L2, h2, by omega, by omega, by omega, by go_num, rfl, T5, HKN2, K5⟩
            case measure => simp [intOf]; omega
        · have z0 : (C == 0) = false := by simp [hC0]
          have HKN2 := hide (HOT.out (Or.inr hC0))
          clear hC0
          go_wp2_with fail
          go_roundw
          case rel => exact ⟨i + 1, la, L2, h2, by omega, by omega, by omega, by go_num, rfl, T5, HKN2, K5⟩
          case measure => simp [intOf]; omega
    · have hd : decide ((i : Int) < (len : Int)) = false := decide_eq_false (by omega)
      have HG := hide (get_at r g 64 h L now key wr HT.out)
      cases hgot : got L now key with
      | none =>
        obtain ⟨q1, q2, q3, q4⟩ := get_none hgot
        have hgc : getC L now key = 2 ∨ getC L now key = 5 := by rw [q1]; split; exact Or.inl rfl; exact Or.inr rfl
        rw [q2, q3, q4, show byt noN = [] from rfl] at HG
        generalize getC L now key = gc at HG hgc
        clear hgot HKN q1 q2 q3 q4
        rcases hgc with rfl | rfl
        all_goals
          go_wp2_with fail
          refine HG.out.mono ?_
          rintro e w4 ⟨v, rfl, ⟨ya, yc, rfl, ys, yo⟩, t4, k4⟩
          have K4 := hide (k4.belowT HB.out hgB hgB)
          clear ys yo t4 k4
          rw [List.length_nil]
          go_wp2_with fail
          go_ret
          exact ⟨rfl, K4.out⟩
      | some sl =>
        obtain ⟨q1, q2, q3, q4⟩ := get_some hgot
        obtain ⟨b1, b2, b3, b4⟩ := got_spec hgot
        obtain ⟨p, hp, rfl, p1, p2, p3, p4, p5, p6, p7⟩ := HKN.out.got hgot
        obtain ⟨b, o, rfl, hX, hOf⟩ := acts_at HA.out HB.out (show p < len by omega)
        have hbo : b < wr.heap.size := lt_of_cell hX.c0
        have hbw : b < w.heap.size := by
          obtain ⟨b', o', e', hb', _⟩ := HA.out (by omega)
          simp only [Option.some.injEq, Addr.mk.injEq, and_true] at e'
          omega
        have hbN : ¬ badNow now := fun e => b1 (Or.inl e)
        unfold badNow at hbN
        have hfr : (f p).now ≤ now ∧ now - (f p).now < (f p).age := by
          unfold fresh at b4
          simp only [Bool.and_eq_true, decide_eq_true_eq] at b4
          rw [p6, p7] at b4
          exact b4
        rw [q1, q2, q3, p5, p6] at HG
        have hby : byt (strN (f p).l) = (f p).l := byt_strN _ hX.src.byte
        have hlen := hX.src.hlen
        rw [hby] at HG
        have HXX := hide hX
        generalize f p = x at HG p1 p2 p3 p4 HXX hlen hfr hOf
        clear hX
        obtain ⟨xk, xnow, xage, xkey, xa, xn, xc, xl⟩ := x
        simp only at HG p1 p2 p3 p4 HXX hlen hfr hOf
        have HOF := hide hOf
        have hq1 : now ≤ 1099511627776 := by omega
        have hq0 : 0 ≤ now := by omega
        have hf1 := hfr.1
        have hf2 := hfr.2
        clear hgot HKN q1 q2 q3 q4 b1 b2 b3 b4 p5 p6 p7 hby hbN hOf hfr
        have d1 : decide ((p : Int) ≥ 0) = true := decide_eq_true (by omega)
        have d1' : decide (0 ≤ (p : Int)) = true := decide_eq_true (by omega)
        have d2 : decide (now - xnow ≥ 0) = true := decide_eq_true (by omega)
        have d2' : decide (0 ≤ now - xnow) = true := decide_eq_true (by omega)
        have d3 : decide (now - xnow < xage) = true := decide_eq_true (by omega)
        have hw1 : IntKind.i64.wrap (now - xnow) = now - xnow := wrap_int _ (by omega) (by omega)
        have d4 : (now - xnow == now - xnow) = true := by simp
        go_wp2_with fail
        refine HG.out.mono ?_
        rintro e w4 ⟨v, rfl, ⟨ya, yc, rfl, ys, yo⟩, t4, k4⟩
        have K4 := hide (k4.belowT HB.out hgB hgB)
        have B4 : Hid (Below w.heap.size wr w4) := k4.below hgB hgB (HB.out.size)
        have YS := hide ys
        have f0 := (B4.out.cell (p := ⟨b, o + p * 5, none⟩) hbw).trans HXX.out.c0
        have f1 := (B4.out.cell (p := ⟨b, o + p * 5 + 1, none⟩) hbw).trans HXX.out.c1
        have f2 := (B4.out.cell (p := ⟨b, o + p * 5 + 2, none⟩) hbw).trans HXX.out.c2
        have f4 := (B4.out.cell (p := ⟨b, o + p * 5 + 4, none⟩) hbw).trans HXX.out.c4
        have SX := hide (HXX.out.src.keep (w' := w4) (fun h0 b' o' e' => B4.out.block b' (HOF.out (by simp only at h0; omega) b' o' e')) B4.out.size)
        simp only at f0 f1 f2 f4 SX
        rw [hlen]
        rw [hlen] at YS
        clear ys yo t4 k4
        have HS := hide (same_bytes w4 ya xa xn yc xn xc xl YS.out SX.out)
        go_wp2_with fail
        refine HS.out.mono ?_
        rintro e w5 ⟨rfl, rfl⟩
        go_wp2_with fail
        go_ret
        exact ⟨rfl, K4.out⟩
end Go.Proofs.Ytcihkdmndpdmoaa
