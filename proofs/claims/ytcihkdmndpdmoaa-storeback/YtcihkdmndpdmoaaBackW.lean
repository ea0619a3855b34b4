/-
  What is put is told as it was put: what the statement does; conditions as each theorem has them.
-/
import Derived.Test.YtcihkdmndpdmoaaFreshW
set_option linter.unusedSimpArgs false
set_option linter.unusedVariables false
namespace Go.Proofs.Ytcihkdmndpdmoaa
open Go.RowKit
theorem fidx_nms (key : ByteArray) : ∀ {L K : List Sl}, nms L = nms K → fidx key L = fidx key K
  | [], [], _ => rfl
  | [], _ :: _, h => by simp [nms] at h
  | _ :: _, [], h => by simp [nms] at h
  | s :: L, t :: K, h => by
    simp only [nms, List.map_cons, List.cons.injEq] at h
    have := fidx_nms key (L := L) (K := K) h.2
    simp only [fidx, h.1, this]
theorem put_has {K : Nat} {L : List Sl} {h : Nat} (i : Inv K L h) (now : Int) (key : ByteArray) (b : ByteArray) (age : Int) (hc : code K L now key b.size age = 0) : ∃ s, (put K L h now key b age).1[fidx key (put K L h now key b age).1]? = some s ∧ s.key = key ∧ s.bs = b ∧ s.at_ = now ∧ s.age = age := by
  have hl := put_last (h := h) i now key b age hc
  obtain ⟨hb, _, hpos⟩ := code_ok hc
  obtain ⟨_, p2, p3, _⟩ := place_inv now key i hpos
  have hk : key.size ≠ 0 := fun e => hb (Or.inr (Or.inl (Or.inl e)))
  have hp : (put K L h now key b age).1[(place L h now key).2.2]? = some ⟨key, b, now, age, false⟩ := by
    rw [put_good hc]
    unfold putS
    rw [List.getElem?_set, if_pos rfl, if_pos (by rw [nms_len p2]; exact p3)]
  have hle := fidx_least key _ _ _ hp rfl
  have hlt := (List.getElem?_eq_some_iff.1 hp).1
  have hg := get_at0 (L := (put K L h now key b age).1) (i := fidx key (put K L h now key b age).1) (by omega)
  have e := fidx_at key _ _ hg
  have := hl _ _ hg e hk
  simp only [Option.some.injEq, Prod.mk.injEq] at this
  exact ⟨_, hg, e, this.1.symm, this.2.1.symm, this.2.2.symm⟩
/-- A Get behind a Put: what it tells. -/
theorem get_put {L : List Sl} {now age : Int} {key b : ByteArray} {s : Sl} (hb : ¬ badPut now key age) (hs : L[fidx key L]? = some s) (h1 : s.key = key) (h2 : s.bs = b) (h3 : s.at_ = now) (h4 : s.age = age) :
    getC L now key = 0 ∧ getB L now key = b ∧ getN L now key = 0 ∧ (∃ s', (getL L now key)[fidx key (getL L now key)]? = some s' ∧ s'.key = key ∧ s'.bs = b ∧ s'.at_ = now ∧ s'.age = age) := by
  have hb' : ¬ (badNow now ∨ badKey key) := fun e => hb (by rcases e with e | e; exact Or.inl e; exact Or.inr (Or.inl e))
  have h5 : ¬ badAge age := fun e => hb (Or.inr (Or.inr e))
  unfold badAge at h5
  have hf : fresh s now = true := by
    unfold fresh
    rw [h3, h4, decide_eq_true (Int.le_refl _), decide_eq_true (by omega)]
    rfl
  have hg := got_of hb' hs hf
  obtain ⟨q1, q2, q3, q4⟩ := get_some hg
  refine ⟨q1, by rw [q2, h2], by rw [q3, h3]; omega, { s with asked := true }, ?_, h1, h2, h3, h4⟩
  rw [fidx_nms key (getL_nms L now key), q4, List.getElem?_set, if_pos rfl, if_pos (List.getElem?_eq_some_iff.1 hs).1]
theorem get_late {L : List Sl} {now age later : Int} {key b : ByteArray} {s : Sl} (hb : ¬ badPut now key age) (hs : L[fidx key L]? = some s) (h2 : s.bs = b) (h3 : s.at_ = now) (h4 : s.age = age) (hl1 : now ≤ later) (hl2 : later ≤ 1099511627776) :
    (later - now < age → getC L later key = 0 ∧ getB L later key = b ∧ getN L later key = later - now) ∧ (¬ later - now < age → getC L later key = 5 ∧ getB L later key = noN ∧ getN L later key = 0) := by
  have h1 : ¬ badNow now := fun e => hb (Or.inl e)
  unfold badNow at h1
  have hb' : ¬ (badNow later ∨ badKey key) := fun e => by
    rcases e with e | e
    · unfold badNow at e; omega
    · exact hb (Or.inr (Or.inl e))
  refine ⟨fun hl => ?_, fun hl => ?_⟩
  · have hf : fresh s later = true := by
      unfold fresh
      rw [h3, h4, decide_eq_true hl1, decide_eq_true hl]
      rfl
    obtain ⟨q1, q2, q3, q4⟩ := get_some (got_of hb' hs hf)
    exact ⟨q1, by rw [q2, h2], by rw [q3, h3]⟩
  · have hf : fresh s later = false := by
      unfold fresh
      rw [h3, h4, decide_eq_false hl, Bool.and_false]
    obtain ⟨q1, q2, q3, q4⟩ := get_none (got_not (now := later) (L := L) (key := key) (fun s' hs' => by rw [hs] at hs'; simp at hs'; subst hs'; exact hf))
    rw [if_neg hb'] at q1
    exact ⟨q1, q2, q3⟩
set_option maxRecDepth 100000 in
set_option maxHeartbeats 8000000 in
theorem back_walk (s : Int) (a : Option Addr) (len cap : Nat) (f : Nat → Ac) (now : Int) (key : ByteArray) (ba : Option Addr) (bn bc : Nat) (bl : List Nat) (age later : Int) (w : World) (hA : IsActs w a len cap f) (_ : key.size ≤ maxLen) (hb : Src w ba bn bc bl) : Calls Try.prog 7 #[.int .i64 s, .slice a len cap, .int .i64 now, .string key, .slice ba bn bc, .int .i64 age, .int .i64 later] w fun e w' => e = .returned (.bool true) ∧ Below w.heap.size w w' := by
  obtain ⟨hlc, hcm, hI⟩ := hA
  have HA := hide hI
  have HSB := hide hb
  have hbc := hb.hcap
  have hbm := hb.hmax
  unfold maxLen at hbm
  clear hI hb
  go_enter Try.func7, Try.ntmps7
  go_wp2_with fail
  refine (works_at w).mono ?_
  rintro e w1 ⟨rfl, k1⟩
  have K1 := hide k1
  clear k1
  go_wp2_with fail
  refine (among s 20 (by omega) (by omega) w1).mono ?_
  rintro e w2 ⟨M, hM, rfl, rfl⟩
  obtain ⟨N, hN⟩ : ∃ N, N = 1 + M := ⟨_, rfl⟩
  have e1 : (1 : Int) + (M : Int) = (N : Int) := by omega
  have hN1 : 1 ≤ N := by omega
  have hN2 : N ≤ 20 := by omega
  clear hN
  go_wp2_with fail
  refine (new_good N 64 w1 (by omega) (by omega) (by omega)).mono ?_
  rintro e w3 ⟨rfl, h3, k3⟩
  have K3 := hide (K1.out.trans (k3.mono K1.out.size))
  have H3 := hide h3
  have hw1 : w.heap.size ≤ w1.heap.size := K1.out.size
  clear h3 k3 K1 e1 hM
  obtain ⟨r, hr⟩ : ∃ r, r = w1.heap.size + 1 := ⟨_, rfl⟩
  obtain ⟨g, hg⟩ : ∃ g, g = w1.heap.size := ⟨_, rfl⟩
  rw [← hr, ← hg] at H3
  rw [← hr]
  have hrB : w.heap.size ≤ r := by omega
  have hgB : w.heap.size ≤ g := by omega
  clear hr hg hw1
  go_wp2_with fail
  go_loopw [17] (fun v wr => ∃ (i : Nat) (L : List Sl) (h : Nat), i ≤ len ∧ v = .int .i64 i ∧ Hid (IsTab wr r g 64 L h) ∧ Hid (L.length = N) ∧ Hid (Below w.heap.size w wr)) (fun v _ => len - (intOf v).toNat)
  case atStart => exact ⟨0, _, 0, Nat.zero_le _, rfl, H3, List.length_replicate, K3⟩
  case round =>
    clear H3 K3
    obtain ⟨i, L, h, hi, rfl, HT, HLN, HB⟩ := hrel
    by_cases hil : i < len
    · have hd : decide ((i : Int) < (len : Int)) = true := decide_eq_true (by omega)
      obtain ⟨b, o, rfl, hX, hOf⟩ := acts_at HA.out HB.out hil
      have hbw : b < w.heap.size := by
        obtain ⟨b', o', e', hb', _⟩ := HA.out (by omega)
        simp only [Option.some.injEq, Addr.mk.injEq, and_true] at e'
        omega
      generalize f i = x at hX hOf
      obtain ⟨e0, e1, e2, e3, e4, hsrc, hlen, hin1, hin2⟩ := hX
      obtain ⟨xk, xnow, xage, xkey, xa, xn, xc, xl⟩ := x
      simp only at e0 e1 e2 e3 e4 hsrc hlen hin1 hin2 hOf
      have OF : Hid (Off xa xn r ∧ Off xa xn g) := ⟨fun h0 b' o' e' => by have := hOf (by omega) b' o' e'; omega, fun h0 b' o' e' => by have := hOf (by omega) b' o' e'; omega⟩
      have HP := hide (put_at r g 64 h L xnow xkey xa xn xc xl xage (wr.drewN 1) (HT.out.drewN 1) (hsrc.below (Below.refl _ _).drew) OF.out)
      have HL2 : Hid ((put 64 L h xnow xkey (strN xl) xage).1.length = N) := (put_length HT.out.inv _ _ _ _).trans HLN.out
      generalize code 64 L xnow xkey xn xage = C at HP
      generalize (put 64 L h xnow xkey (strN xl) xage).2 = h2 at HP
      generalize (put 64 L h xnow xkey (strN xl) xage).1 = L2 at HP HL2
      have C1 := hide e1
      have C2 := hide e2
      have C3 := hide e3
      have C4 := hide e4
      clear hsrc hlen hin1 hin2 hOf OF HLN
      go_wp2_with fail
      go_region_held3 (fun w' => w'.cell? ⟨b, o + i * 5 + 1, none⟩ = some (.int .i64 xnow) ∧ w'.cell? ⟨b, o + i * 5 + 2, none⟩ = some (.int .i64 xage) ∧ w'.cell? ⟨b, o + i * 5 + 3, none⟩ = some (.string xkey) ∧ w'.cell? ⟨b, o + i * 5 + 4, none⟩ = some (.slice xa xn xc)) (first | assumption | exact ⟨by assumption, by assumption, by assumption, by assumption⟩ | go_keep) (first | (go_at_call 13; refine HP.out.mono ?_; rintro e w4 ⟨rfl, t4, k4⟩; have kk := (((Kept.refl r g wr).drewN 1).trans k4).below hrB hgB HB.out.size; have T4 := hide t4; have B4 := hide kk; have K4 := hide (HB.out.trans kk); have f1 := (kk.cell (p := ⟨b, o + i * 5 + 1, none⟩) hbw).trans C1.out; have f2 := (kk.cell (p := ⟨b, o + i * 5 + 2, none⟩) hbw).trans C2.out; have f3 := (kk.cell (p := ⟨b, o + i * 5 + 3, none⟩) hbw).trans C3.out; have f4 := (kk.cell (p := ⟨b, o + i * 5 + 4, none⟩) hbw).trans C4.out; clear t4 k4 kk))
      all_goals
        have F1 := hide f1
        have F3 := hide f3
        have HG := hide (get_at r g 64 h2 L2 xnow xkey (w4.drewN 1) (T4.out.drewN 1))
        have HL3 : Hid ((getL L2 xnow xkey).length = N) := (getL_length _ _ _).trans HL2.out
        generalize getL L2 xnow xkey = L3 at HG HL3
        clear e0 e1 e2 e3 e4
        go_wp2_with fail
        go_region_held3 (fun w' => w'.cell? ⟨b, o + i * 5 + 1, none⟩ = some (.int .i64 xnow) ∧ w'.cell? ⟨b, o + i * 5 + 3, none⟩ = some (.string xkey)) (first | assumption | exact ⟨by assumption, by assumption⟩ | go_keep) (first | (go_at_call 16; refine HG.out.mono ?_; rintro e w5 ⟨v, rfl, ho, t5, k5⟩; have T5 := hide t5; have kk := (((Kept.refl g g w4).drewN 1).trans k5).below hgB hgB K4.out.size; have K5 := hide (K4.out.trans kk); have g1 := (kk.cell (p := ⟨b, o + i * 5 + 1, none⟩) hbw).trans F1.out; have g3 := (kk.cell (p := ⟨b, o + i * 5 + 3, none⟩) hbw).trans F3.out; clear t5 k5 ho kk))
        all_goals
          go_wp2_with fail
          go_roundw
          case rel => exact ⟨i + 1, L3, h2, by omega, by go_num, T5, HL3, K5⟩
          case measure => simp [intOf]; omega
    · have hd : decide ((i : Int) < (len : Int)) = false := decide_eq_false (by omega)
      have HK := hide (keys_at r g 64 h L wr HT.out)
      rw [HLN.out] at HK
      go_wp2_with fail
      refine HK.out.mono ?_
      rintro e w4 ⟨rfl, t4, k4⟩
      have T4 := hide (HT.out.below k4)
      have S4 : Hid (SrcT w4 (some ⟨wr.heap.size, 0, none⟩) N N (nms L)) := SrcT.of_block t4 (by rw [nms_length]; exact HLN.out) (by unfold maxLen; omega)
      have K4 := hide (HB.out.trans (k4.mono HB.out.size))
      have LW : Hid (wr.heap.size ≠ r ∧ wr.heap.size ≠ g) := ⟨by have := HT.out.lt.1; omega, by have := HT.out.lt.2; omega⟩
      clear t4 k4 HT HB HK
      have hsb := HSB.out.below K4.out
      have OF : Hid (Off ba bn r ∧ Off ba bn g) := ⟨fun h0 b' o' e' => by have := HSB.out.lt h0 e'; omega, fun h0 b' o' e' => by have := HSB.out.lt h0 e'; omega⟩
      have HP := hide (put_at r g 64 h L now key ba bn bc bl age w4 T4.out hsb OF.out)
      clear hsb
      have HLl : Hid (0 < L.length) := by show 0 < L.length; rw [HLN.out]; omega
      by_cases hC : code 64 L now key bn age = 0
      · rw [hC] at HP
        obtain ⟨hbad, hbk, _⟩ := code_ok hC
        obtain ⟨x, x1, x2, x3, x4, x5⟩ := put_has T4.out.inv now key (strN bl) age (h := h) (by rw [strN_size, HSB.out.hlen]; exact hC)
        generalize (put 64 L h now key (strN bl) age).2 = h2 at HP
        generalize (put 64 L h now key (strN bl) age).1 = L2 at HP x1
        obtain ⟨y1, y2, y3, x', y4, y5, y6, y7, y8⟩ := get_put hbad x1 x2 x3 x4 x5
        have hby : byt (strN bl) = bl := byt_strN _ HSB.out.byte
        have HG := fun W t => hide (get_at r g 64 h2 L2 now key W t)
        rw [y1, y2, y3, hby] at HG
        have HLATE := hide (fun l1 l2 => get_late (later := later) hbad y4 y6 y7 y8 l1 l2)
        generalize getL L2 now key = L3 at HG HLATE
        have HG2 := fun W t => hide (get_at r g 64 h2 L3 later key W t)
        have hnn : ¬ badNow now := fun e => hbad (Or.inl e)
        unfold badNow at hnn
        have hag : ¬ badAge age := fun e => hbad (Or.inr (Or.inr e))
        unfold badAge at hag
        have hn0 : 0 ≤ now := by omega
        have hn1 : now ≤ 1099511627776 := by omega
        have ha0 : 1 ≤ age := by omega
        have ha1 : age ≤ 1048576 := by omega
        have HBL := hide HSB.out.hlen
        clear hC hbad hbk x1 x2 x3 x4 x5 y1 y2 y3 y4 y5 y6 y7 y8 hnn hag
        go_wp2_with fail
        refine HP.out.mono ?_
        rintro e w5 ⟨rfl, t5, k5⟩
        have T5 := hide t5
        have K5 := hide (k5.belowT K4.out hrB hgB)
        clear t5 k5
        go_wp2_with fail
        refine (HG _ T5.out).out.mono ?_
        rintro e w6 ⟨v, rfl, ⟨ya, yc, rfl, ys, yo⟩, t6, k6⟩
        have T6 := hide t6
        have K6 := hide (k6.belowT K5.out hgB hgB)
        have YS := hide ys
        rw [HBL.out] at YS ⊢
        clear ys yo t6 k6
        have HS := hide (same_bytes w6 ya ba bn yc bn bc bl YS.out (HSB.out.below K6.out))
        by_cases hl1 : later < now
        · have d1 : decide (later < now) = true := decide_eq_true hl1
          clear HG2 HLATE
          go_wp2_with fail
          refine HS.out.mono ?_
          rintro e w7 ⟨rfl, rfl⟩
          go_wp2_with fail
          go_ret
          exact ⟨rfl, K6.out⟩
        by_cases hl2 : 1099511627776 < later
        · have d1 : decide (later < now) = false := decide_eq_false hl1
          have d2 : decide (later > 1099511627776) = true := decide_eq_true hl2
          have d3 : decide (1099511627776 < later) = true := decide_eq_true hl2
          clear HG2 HLATE
          go_wp2_with fail
          refine HS.out.mono ?_
          rintro e w7 ⟨rfl, rfl⟩
          go_wp2_with fail
          go_ret
          exact ⟨rfl, K6.out⟩
        have d1 : decide (later < now) = false := decide_eq_false hl1
        have d2 : decide (later > 1099511627776) = false := decide_eq_false hl2
        have d3 : decide (1099511627776 < later) = false := decide_eq_false hl2
        have hw1 : IntKind.i64.wrap (later - now) = later - now := wrap_int _ (by omega) (by omega)
        obtain ⟨u1, u2⟩ := HLATE.out (by omega) (by omega)
        by_cases hl3 : later - now < age
        · obtain ⟨v1, v2, v3⟩ := u1 hl3
          rw [v1, v2, v3, hby] at HG2
          have d4 : decide (later - now ≥ age) = false := decide_eq_false (by omega)
          have d5 : decide (age ≤ later - now) = false := decide_eq_false (by omega)
          have d6 : (later - now == later - now) = true := by simp
          clear HLATE u1 u2 v1 v2 v3
          go_wp2_with fail
          refine HS.out.mono ?_
          rintro e w7 ⟨rfl, rfl⟩
          go_wp2_with fail
          refine (HG2 _ T6.out).out.mono ?_
          rintro e w8 ⟨v, rfl, ⟨za, zc, rfl, zs, zo⟩, t8, k8⟩
          have K8 := hide (k8.belowT K6.out hgB hgB)
          have ZS := hide zs
          rw [HBL.out] at ZS ⊢
          clear zs zo t8 k8
          have HS2 := hide (same_bytes w8 za ba bn zc bn bc bl ZS.out (HSB.out.below K8.out))
          go_wp2_with fail
          refine HS2.out.mono ?_
          rintro e w9 ⟨rfl, rfl⟩
          go_wp2_with fail
          go_ret
          exact ⟨rfl, K8.out⟩
        · obtain ⟨v1, v2, v3⟩ := u2 (by omega)
          rw [v1, v2, v3, show byt noN = [] from rfl] at HG2
          have d4 : decide (later - now ≥ age) = true := decide_eq_true (by omega)
          have d5 : decide (age ≤ later - now) = true := decide_eq_true (by omega)
          clear HLATE u1 u2 v1 v2 v3
          go_wp2_with fail
          refine HS.out.mono ?_
          rintro e w7 ⟨rfl, rfl⟩
          go_wp2_with fail
          refine (HG2 _ T6.out).out.mono ?_
          rintro e w8 ⟨v, rfl, ⟨za, zc, rfl, zs, zo⟩, t8, k8⟩
          have K8 := hide (k8.belowT K6.out hgB hgB)
          rw [List.length_nil]
          clear zs zo t8 k8
          go_wp2_with fail
          go_ret
          exact ⟨rfl, K8.out⟩
      · rw [put_bad (by rw [strN_size, HSB.out.hlen]; exact hC)] at HP
        simp only at HP
        have hcc : code 64 L now key bn age = 2 ∨ (code 64 L now key bn age = 3 ∧ 64 < bn) := by
          have hl := HLl.out
          unfold code at hC ⊢
          split
          · exact Or.inl rfl
          · rename_i h1
            rw [if_neg h1] at hC
            split
            · exact Or.inr ⟨rfl, by assumption⟩
            · rename_i h2
              rw [if_neg h2, if_neg (by omega)] at hC
              exact absurd rfl hC
        generalize code 64 L now key bn age = C at HP hcc
        clear hC
        have HK2 := fun W t => hide (keys_at r g 64 h L W t)
        rw [HLN.out] at HK2
        rcases hcc with rfl | ⟨rfl, h64⟩
        · go_wp2_with fail
          refine HP.out.mono ?_
          rintro e w5 ⟨rfl, t5, k5⟩
          have T5 := hide t5
          have S5 := hide (S4.out.keep (w' := w5) (fun h0 b' o' e' => by
            simp only [Option.some.injEq, Addr.mk.injEq, and_true] at e'
            obtain ⟨rfl, _⟩ := e'
            exact k5.block _ (S4.out.lt h0 rfl) LW.out.1 LW.out.2) k5.size)
          have K5 := hide (k5.belowT K4.out hrB hgB)
          clear t5 k5 S4
          go_wp2_with fail
          refine (HK2 _ T5.out).out.mono ?_
          rintro e w6 ⟨rfl, t6, k6⟩
          have S6 : Hid (SrcT w6 (some ⟨w5.heap.size, 0, none⟩) N N (nms L)) := SrcT.of_block t6 (by rw [nms_length]; exact HLN.out) (by unfold maxLen; omega)
          have S5' := hide (S5.out.below k6)
          have K6 := hide (K5.out.trans (k6.mono K5.out.size))
          clear t6 k6
          have HS := hide (same_texts w6 _ _ N N N N (nms L) S6.out S5'.out)
          go_wp2_with fail
          refine HS.out.mono ?_
          rintro e w7 ⟨rfl, k7⟩
          have K7 := hide (K6.out.trans (k7.mono K6.out.size))
          clear k7
          go_wp2_with fail
          go_ret
          exact ⟨rfl, K7.out⟩
        · have d1 : decide ((bn : Int) > 64) = true := decide_eq_true (by omega)
          have d2 : decide (64 < (bn : Int)) = true := decide_eq_true (by omega)
          go_wp2_with fail
          refine HP.out.mono ?_
          rintro e w5 ⟨rfl, t5, k5⟩
          have T5 := hide t5
          have S5 := hide (S4.out.keep (w' := w5) (fun h0 b' o' e' => by
            simp only [Option.some.injEq, Addr.mk.injEq, and_true] at e'
            obtain ⟨rfl, _⟩ := e'
            exact k5.block _ (S4.out.lt h0 rfl) LW.out.1 LW.out.2) k5.size)
          have K5 := hide (k5.belowT K4.out hrB hgB)
          clear t5 k5 S4
          go_wp2_with fail
          refine (HK2 _ T5.out).out.mono ?_
          rintro e w6 ⟨rfl, t6, k6⟩
          have S6 : Hid (SrcT w6 (some ⟨w5.heap.size, 0, none⟩) N N (nms L)) := SrcT.of_block t6 (by rw [nms_length]; exact HLN.out) (by unfold maxLen; omega)
          have S5' := hide (S5.out.below k6)
          have K6 := hide (K5.out.trans (k6.mono K5.out.size))
          clear t6 k6
          have HS := hide (same_texts w6 _ _ N N N N (nms L) S6.out S5'.out)
          go_wp2_with fail
          refine HS.out.mono ?_
          rintro e w7 ⟨rfl, k7⟩
          have K7 := hide (K6.out.trans (k7.mono K6.out.size))
          clear k7
          go_wp2_with fail
          go_ret
          exact ⟨rfl, K7.out⟩
end Go.Proofs.Ytcihkdmndpdmoaa
