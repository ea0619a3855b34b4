/-
  What is told of a name is what was put last under it: what the statement does; conditions as each theorem has them.
-/
import Derived.Test.YtmolcipbopaniaaT
set_option linter.unusedSimpArgs false
set_option linter.unusedVariables false
namespace Go.Proofs.Ytmolcipbopaniaa
open Go.RowKit
/-- What is known of the last Put of a name, that lies at la. -/
def Known (f : Nat → Ac) (name : ByteArray) (i : Nat) (la : Int) (L : List Sl) : Prop :=
  (la = -1 ∧ Last L name none) ∨ ∃ p : Nat, p < i ∧ la = p ∧ 0 ≤ (f p).now ∧ (f p).now ≤ 1099511627776 ∧ 0 ≤ (f p).ttl ∧ (f p).ttl ≤ 1048576 ∧ Last L name (if (f p).ttl = 0 then none else some ((f p).ads, (f p).now + (f p).ttl))
theorem Known.other {f : Nat → Ac} {name : ByteArray} {i : Nat} {la : Int} {L : List Sl} (h : Known f name i la L) (now : Int) (m : ByteArray) (ads : List Ad) (ttl : Int) (hne : m ≠ name ∨ code L now m ads.length ttl ≠ 0) : Known f name (i + 1) la (put L now m ads ttl) := by
  have key : ∀ o, Last L name o → Last (put L now m ads ttl) name o := fun o ho => by
    rcases hne with hne | hne
    · exact put_other ho now m ads ttl hne
    · rw [put_bad hne]; exact ho
  rcases h with ⟨h1, h2⟩ | ⟨p, hp, h1, h2, h3, h4, h5, h6⟩
  · exact Or.inl ⟨h1, key _ h2⟩
  · exact Or.inr ⟨p, by omega, h1, h2, h3, h4, h5, key _ h6⟩
theorem Known.own {f : Nat → Ac} {name : ByteArray} {i : Nat} {L : List Sl} (hU : Uniq L) {x : Ac} (hx : x = f i) (hn : x.name = name) (hl : x.ads.length = x.n) (hc : code L x.now x.name x.n x.ttl = 0) : Known f name (i + 1) i (put L x.now x.name x.ads x.ttl) := by
  have hb : ¬ (badNow x.now ∨ badPut x.name x.n x.ttl) := by intro hb; unfold code at hc; rw [if_pos hb] at hc; cases hc
  have h1 : ¬ badNow x.now := fun e => hb (Or.inl e)
  have h2 : ¬ badPut x.name x.n x.ttl := fun e => hb (Or.inr e)
  unfold badNow at h1
  unfold badPut at h2
  rw [← hl] at hc
  have := put_last hU x.now x.name x.ads x.ttl hc
  rw [hn] at this
  subst hx
  exact Or.inr ⟨i, by omega, rfl, by omega, by omega, by omega, by omega, by rw [hn]; exact this⟩
theorem Known.got {f : Nat → Ac} {name : ByteArray} {i : Nat} {la : Int} {L : List Sl} (h : Known f name i la L) (hk : okL L) {now : Int} {s : Sl} (hg : got L now name = some s) : ∃ p : Nat, p < i ∧ la = p ∧ 0 ≤ (f p).now ∧ (f p).now ≤ 1099511627776 ∧ 0 < (f p).ttl ∧ (f p).ttl ≤ 1048576 ∧ s.ads = (f p).ads ∧ s.till = (f p).now + (f p).ttl := by
  rcases h with ⟨h1, h2⟩ | ⟨p, hp, h1, h2, h3, h4, h5, h6⟩
  · have := got_last hk h2 hg; cases this
  · have := got_last hk h6 hg
    split at this
    · cases this
    · simp only [Option.some.injEq, Prod.mk.injEq] at this
      exact ⟨p, hp, h1, h2, h3, by omega, h5, this.1.symm, this.2.symm⟩
theorem acts_at {w wr : World} {a : Option Addr} {len : Nat} {f : Nat → Ac} (h : 0 < len → ∃ b o, a = some ⟨b, o, none⟩ ∧ b < w.heap.size ∧ ∀ i, i < len → AcAt w b o i (f i)) (k : Below w.heap.size w wr) {i : Nat} (hi : i < len) : ∃ b o, a = some ⟨b, o, none⟩ ∧ AcAt wr b o i (f i) := by
  obtain ⟨b, o, e, hb, hx⟩ := h (by omega)
  exact ⟨b, o, e, (hx i hi).below k hb⟩
set_option maxRecDepth 100000 in
set_option maxHeartbeats 8000000 in
theorem fresh_walk (s : Int) (a : Option Addr) (len cap : Nat) (f : Nat → Ac) (now : Int) (name : ByteArray) (w : World) (hA : IsActs w a len cap f) (_ : name.size ≤ maxLen) : Calls Try.prog 4 #[.int .i64 s, .slice a len cap, .int .i64 now, .string name] w fun e w' => e = .returned (.bool true) ∧ Below w.heap.size w w' := by
  obtain ⟨hlc, hcm, hI⟩ := hA
  have HA := hide hI
  clear hI
  go_enter Try.func4, Try.ntmps4
  go_wp2_with fail
  refine (works_at w).mono ?_
  rintro e w1 ⟨rfl, k1⟩
  have K1 := hide k1
  clear k1
  go_wp2_with fail
  refine (among s 20 (by omega) (by omega) w1).mono ?_
  rintro e w2 ⟨N, hN, rfl, rfl⟩
  go_wp2_with fail
  refine (new_good N w1 (by omega)).mono ?_
  rintro e w3 ⟨rfl, h3, k3⟩
  have K3 := hide (K1.out.trans (k3.mono K1.out.size))
  have H3 := hide h3
  have hw1 : w.heap.size ≤ w1.heap.size := K1.out.size
  clear h3 k3 K1
  obtain ⟨r, hr⟩ : ∃ r, r = w1.heap.size + 1 := ⟨_, rfl⟩
  obtain ⟨g, hg⟩ : ∃ g, g = w1.heap.size := ⟨_, rfl⟩
  rw [← hr, ← hg] at H3
  rw [← hr]
  have hrB : w.heap.size ≤ r := by omega
  have hgB : w.heap.size ≤ g := by omega
  clear hr hg hw1
  go_wp2_with fail
  go_loopw [11, 12] (fun u v wr => ∃ (i : Nat) (la : Int) (L : List Sl), i ≤ len ∧ -1 ≤ la ∧ la < i ∧ v = .int .i64 i ∧ u = .int .i64 la ∧ Hid (IsTab wr r g L) ∧ Hid (Uniq L) ∧ Hid (Known f name i la L) ∧ Hid (Below w.heap.size w wr)) (fun _ v _ => len - (intOf v).toNat)
  case atStart => exact ⟨0, -1, _, Nat.zero_le _, by omega, by omega, rfl, rfl, H3, new_uniq N, Or.inl ⟨rfl, fun i s hs e h0 => by obtain rfl := new_at hs; exact absurd (by rw [← e]; rfl) h0⟩, K3⟩
  case round =>
    clear H3 K3
    obtain ⟨i, la, L, hi, hl1, hl2, rfl, rfl, HT, HU, HKN, HB⟩ := hrel
    by_cases hil : i < len
    · have hd : decide ((i : Int) < (len : Int)) = true := decide_eq_true (by omega)
      obtain ⟨b, o, rfl, hX⟩ := acts_at HA.out HB.out hil
      obtain ⟨x, hxx⟩ : ∃ x, x = f i := ⟨_, rfl⟩
      rw [← hxx] at hX
      obtain ⟨e0, e1, e2, e3, e4, hsrc, hlen, hin1, hin2⟩ := hX
      have HOW : Hid (x.name = name → code L x.now x.name x.n x.ttl = 0 → Known f name (i + 1) i (put L x.now x.name x.ads x.ttl)) := fun hn hc => Known.own HU.out hxx hn hsrc.hlen hc
      have HOT : Hid ((x.name ≠ name ∨ code L x.now x.name x.n x.ttl ≠ 0) → Known f name (i + 1) la (put L x.now x.name x.ads x.ttl)) := fun hn => HKN.out.other _ _ _ _ (by rw [hsrc.hlen]; exact hn)
      clear hxx
      obtain ⟨xk, xnow, xttl, xname, xa, xn, xc, xads⟩ := x
      simp only at e0 e1 e2 e3 e4 hsrc hlen hin1 hin2 HOW HOT
      have hbx : Below wr.heap.size wr (wr.alloc (.cells #[.int .i64 xk, .int .i64 xnow, .int .i64 xttl, .string xname, .slice xa xn xc] 32)) := (Below.refl _ _).alloc (Nat.le_refl _) _
      have HP := hide (put_at r g L xnow xname xa xn xc xads xttl _ (HT.out.belowS hbx) (hsrc.below hbx))
      have HBX := hide hbx
      clear hbx hsrc hlen hin1 hin2
      obtain ⟨C, hC⟩ : ∃ C, C = code L xnow xname xn xttl := ⟨_, rfl⟩
      rw [← hC] at HP HOW HOT
      have HU2 := hide (put_uniq HU.out xnow xname xads xttl)
      obtain ⟨L2, hL2⟩ : ∃ L2, L2 = put L xnow xname xads xttl := ⟨_, rfl⟩
      rw [← hL2] at HP HU2 HOW HOT
      clear hC hL2 HU HKN
      go_wp2_with fail
      refine HP.out.mono ?_
      rintro e w4 ⟨rfl, h4, k4⟩
      have H4 := hide h4
      have K4 := hide ((HB.out.trans (HBX.out.mono HB.out.size)).trans (k4.below hgB hgB (HB.out.trans (HBX.out.mono HB.out.size)).size))
      have hbx4 : w4.heap[wr.heap.size]? = some (.cells #[.int .i64 xk, .int .i64 xnow, .int .i64 xttl, .string xname, .slice xa xn xc] 32) := (k4.block _ (by simp) (by have := HT.out.lt.2; omega) (by have := HT.out.lt.2; omega)).trans (alloc_new _ _)
      have hc3 : w4.cell? ⟨wr.heap.size, 3, none⟩ = some (.string xname) := by simp [World.cell?, hbx4]
      clear h4 k4 HP HT HB HBX e0 e1 e2 e3 e4 hbx4
      by_cases hC0 : C = 0
      · subst hC0
        by_cases hnm : xname = name
        · have z1 : (xname.toList == name.toList) = true := by rw [eq_ba]; simp [hnm]
          have HKN2 := hide (HOW.out hnm rfl)
          clear hnm HOW HOT
          go_wp2_with fail
          go_roundw
          case rel => exact ⟨i + 1, i, L2, by omega, by omega, by omega, by go_num, rfl, H4, HU2, HKN2, K4⟩
          case measure => simp [intOf]; omega
        · have z1 : (xname.toList == name.toList) = false := by rw [eq_ba]; simp [hnm]
          have HKN2 := hide (HOT.out (Or.inl hnm))
          clear hnm HOW HOT
          go_wp2_with fail
          go_roundw
          case rel => exact ⟨i + 1, la, L2, by omega, by omega, by omega, by go_num, rfl, H4, HU2, HKN2, K4⟩
          case measure => simp [intOf]; omega
      · have z0 : (C == 0) = false := by simp [hC0]
        have HKN2 := hide (HOT.out (Or.inr hC0))
        clear hC0 HOW HOT
        go_wp2_with fail
        go_roundw
        case rel => exact ⟨i + 1, la, L2, by omega, by omega, by omega, by go_num, rfl, H4, HU2, HKN2, K4⟩
        case measure => simp [intOf]; omega
    · have hd : decide ((i : Int) < (len : Int)) = false := decide_eq_false (by omega)
      have HG := hide (get_at r g L now name wr HT.out)
      have HOK : Hid (okL L) := HT.out.ok
      cases hgot : got L now name with
      | none =>
        have hgc : getC L now name = 2 ∨ getC L now name = 5 := by
          unfold getC
          split
          · exact Or.inl rfl
          · rw [hgot]; exact Or.inr rfl
        rw [show getT L now name = 0 by simp [getT, hgot], show getA L now name = [] by simp [getA, hgot]] at HG
        generalize getC L now name = gc at HG hgc
        clear hgot HKN HU
        rcases hgc with rfl | rfl
        all_goals
          go_wp2_with fail
          refine HG.out.mono ?_
          rintro e w4 ⟨v, rfl, ho, k4⟩
          obtain ⟨xa, xc, rfl⟩ := ho.shape
          have K4 := hide (HB.out.trans (k4.mono HB.out.size))
          clear ho k4
          rw [List.length_nil]
          go_wp2_with fail
          go_ret
          exact ⟨rfl, K4.out⟩
      | some sl =>
        obtain ⟨hb1, hb2, hb3, hb4⟩ := got_spec hgot
        obtain ⟨p, hp, rfl, p1, p2, p3, p4, p5, p6⟩ := HKN.out.got HT.out.ok hgot
        have hbad : ¬ badNow now := hb1
        unfold badNow at hb1
        obtain ⟨b, o, rfl, hX⟩ := acts_at HA.out HB.out (show p < len by omega)
        have hbo : b < wr.heap.size := lt_of_cell hX.c0
        rw [show getT L now name = sl.till - now by simp [getT, hgot], show getA L now name = sl.ads by simp [getA, hgot], show getC L now name = 0 by simp [getC, hgot, hbad]] at HG
        have hok := (HT.out.ok _ _ hb2).byte
        have htill : sl.till - now = (f p).now + (f p).ttl - now := by rw [p6]
        have hpos : 0 < sl.till - now := by omega
        rw [p5] at HG hok
        rw [htill] at HG hpos
        have HXX := hide hX
        have hlen := hX.src.hlen
        generalize f p = x at HG hok hpos p1 p2 p3 p4 HXX hlen
        clear hX
        obtain ⟨xk, xnow, xttl, xname, xa, xn, xc, xads⟩ := x
        simp only at HG hok hpos p1 p2 p3 p4 HXX hlen
        have HOKA := hide hok
        have hq1 : now ≤ 1099511627776 := by omega
        have hq0 : 0 ≤ now := by omega
        clear hgot HKN HU hb1 hb2 hb3 hb4 p5 p6 htill hbad hok
        have d1 : decide ((p : Int) < 0) = false := decide_eq_false (by omega)
        have d2 : decide (xnow + xttl - now > 0) = true := decide_eq_true (by omega)
        have d2' : decide (0 < xnow + xttl - now) = true := decide_eq_true (by omega)
        have d3 : decide (xttl > 0) = true := decide_eq_true (by omega)
        have d3' : decide (0 < xttl) = true := decide_eq_true (by omega)
        have hw1 : IntKind.i64.wrap (xnow + xttl) = xnow + xttl := by rw [IntKind.wrap_i64]; omega
        have hw2 : IntKind.i64.wrap (xnow + xttl - now) = xnow + xttl - now := by rw [IntKind.wrap_i64]; omega
        have d4 : (xnow + xttl - now == xnow + xttl - now) = true := by simp
        go_wp2_with fail
        refine HG.out.mono ?_
        rintro e w4 ⟨v, rfl, ho, k4⟩
        obtain ⟨ya, yc, rfl, hsrc, hout⟩ := ho.src HOKA.out
        have K4 := hide (HB.out.trans (k4.mono HB.out.size))
        have S4 := hide hsrc
        obtain ⟨e0, e1, e2, e3, e4, hsx, _, _, _⟩ := HXX.out.below k4 hbo
        simp only at e0 e1 e2 e3 e4 hsx
        have SX := hide hsx
        rw [hlen]
        rw [hlen] at S4
        clear ho k4 hsrc hout hsx HXX
        have bx : Below w4.heap.size w4 (w4.alloc (.cells #[.int .i64 xk, .int .i64 xnow, .int .i64 xttl, .string xname, .slice xa xn xc] 32)) := (Below.refl _ _).alloc (Nat.le_refl _) _
        have HS := hide (same_addrs _ ya xa xn yc xn xc xads (S4.out.below bx) (SX.out.below bx))
        have BX := hide bx
        clear bx
        go_wp2_with fail
        refine HS.out.mono ?_
        rintro e w5 ⟨rfl, k5⟩
        have hbx5 : w5.heap[w4.heap.size]? = some (.cells #[.int .i64 xk, .int .i64 xnow, .int .i64 xttl, .string xname, .slice xa xn xc] 32) := (k5.block _ (by simp)).trans (alloc_new _ _)
        have f1 : w5.cell? ⟨w4.heap.size, 1, none⟩ = some (.int .i64 xnow) := by simp [World.cell?, hbx5]
        have f2 : w5.cell? ⟨w4.heap.size, 2, none⟩ = some (.int .i64 xttl) := by simp [World.cell?, hbx5]
        have K5 := hide ((K4.out.trans (BX.out.mono K4.out.size)).trans (k5.mono (K4.out.trans (BX.out.mono K4.out.size)).size))
        clear k5 hbx5 HS
        go_wp2_with fail
        go_ret
        exact ⟨rfl, K5.out⟩
end Go.Proofs.Ytmolcipbopaniaa
