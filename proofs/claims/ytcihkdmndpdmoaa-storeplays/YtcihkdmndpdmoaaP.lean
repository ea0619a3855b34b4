/-
  The reference's Put; conditions as each theorem has them.
-/
import Derived.Test.YtcihkdmndpdmoaaZ
set_option linter.unusedSimpArgs false
set_option linter.unusedVariables false
namespace Go.Proofs.Ytcihkdmndpdmoaa
open Go.RowKit
/-- An entry's place and what goes there, as one step of a drawn region. -/
def seOk (P : Program) (p v : Value) (w : World) : Bool := match (Instr.storeAt 67 p v).run P w with
  | .ok _ _ => true
  | _ => false
def seW (P : Program) (p v : Value) (w : World) : World := match (Instr.storeAt 67 p v).run P w with
  | .ok _ y => y
  | _ => w
theorem se_of {p v : Value} {w w' : World} (h : (Instr.storeAt 67 p v).run Try.prog w = .ok () w') : seOk Try.prog p v w = true ∧ seW Try.prog p v w = w' := by
  unfold seOk seW
  rw [h]
  exact ⟨rfl, rfl⟩
theorem run_opse (ρ : Operand → Value) (dst : Option Tmp) (x y : Operand) (ty : TypeId) (pos : String) (after : Array Edge) (guard : Option (Nat × Bool)) (w : World) (h : seOk Try.prog (ρ x) (ρ y) w = true) :
    (execOp ρ { dst, op := .store 67 x y, type := ty, pos, after, guard }).run Try.prog w = .ok .skip (seW Try.prog (ρ x) (ρ y) w) := by
  unfold seOk at h
  unfold seW
  unfold execOp
  cases e : (Instr.storeAt 67 (ρ x) (ρ y)).run Try.prog w with
  | ok u y => simp [Sem.run_bind, e]
  | _ => simp [e] at h
set_option maxRecDepth 100000 in
set_option maxHeartbeats 2000000 in
theorem rput_bad (r : Nat) (now : Int) (key : ByteArray) (a : Option Addr) (n c : Nat) (age : Int) (w : World) (hb : badPut now key age) :
    Calls Try.prog 14 #[.pointer (some ⟨r, 0, none⟩), .int .i64 now, .string key, .slice a n c, .int .i64 age] w fun e w' => e = .returned (.int .i64 2) ∧ w = w' := by
  have HW := fun w' => hide (rwhen_at now w')
  have HKY := fun w' => hide (rkey_at key w')
  by_cases h1 : badNow now
  · rw [show decide (¬ badNow now) = false by simp [h1]] at HW
    clear h1 hb
    go_enter Try.func14, Try.ntmps14
    go_wp2_with fail
    refine (HW _).out.mono ?_
    rintro e w1 ⟨rfl, rfl⟩
    go_wp2_with fail
    go_ret
    exact ⟨rfl, rfl⟩
  rw [show decide (¬ badNow now) = true from decide_eq_true h1] at HW
  by_cases h2 : badKey key
  · rw [show decide (¬ badKey key) = false by simp [h2]] at HKY
    clear h1 hb h2
    go_enter Try.func14, Try.ntmps14
    go_wp2_with fail
    refine (HW _).out.mono ?_
    rintro e w1 ⟨rfl, rfl⟩
    go_wp2_with fail
    refine (HKY _).out.mono ?_
    rintro e w1 ⟨rfl, rfl⟩
    go_wp2_with fail
    go_ret
    exact ⟨rfl, rfl⟩
  rw [show decide (¬ badKey key) = true from decide_eq_true h2] at HKY
  have h3 : badAge age := (hb.resolve_left h1).resolve_left h2
  unfold badAge at h3
  clear h1 hb h2
  rcases h3 with h3 | h3
  · have d1 : decide (age < 1) = true := decide_eq_true h3
    go_enter Try.func14, Try.ntmps14
    go_wp2_with fail
    refine (HW _).out.mono ?_
    rintro e w1 ⟨rfl, rfl⟩
    go_wp2_with fail
    refine (HKY _).out.mono ?_
    rintro e w1 ⟨rfl, rfl⟩
    go_wp2_with fail
    go_ret
    exact ⟨rfl, rfl⟩
  · have d1 : decide (age < 1) = false := decide_eq_false (by omega)
    have d2 : decide (age > 1048576) = true := decide_eq_true h3
    have d2' : decide (1048576 < age) = true := decide_eq_true h3
    go_enter Try.func14, Try.ntmps14
    go_wp2_with fail
    refine (HW _).out.mono ?_
    rintro e w1 ⟨rfl, rfl⟩
    go_wp2_with fail
    refine (HKY _).out.mono ?_
    rintro e w1 ⟨rfl, rfl⟩
    go_wp2_with fail
    go_ret
    exact ⟨rfl, rfl⟩
theorem rput_step {x r g K h : Nat} {L : List Sl} {w : World} (t : RT x w r g K L h) (hx : x < w.heap.size) {a : Option Addr} {n c : Nat} {l : List Nat} (hs : Src w a n c l) (hn : n ≤ 65536) {P : Nat} (hP : P < L.length) {key : ByteArray} {now age : Int} (hI : Inv K (L.set P ⟨key, strN l, now, age, false⟩) h) :
    ∃ a3 c3 w3 w4, apOk Try.prog (.slice (some ⟨w.heap.size, 0, none⟩) 0 0) (.slice a n c) (w.alloc (.cells #[] 5)).drew = true ∧ apV Try.prog (.slice (some ⟨w.heap.size, 0, none⟩) 0 0) (.slice a n c) (w.alloc (.cells #[] 5)).drew = .slice a3 n c3 ∧ apW Try.prog (.slice (some ⟨w.heap.size, 0, none⟩) 0 0) (.slice a n c) (w.alloc (.cells #[] 5)).drew = w3 ∧ w3.cell? ⟨r, 2, none⟩ = some (.slice (some ⟨g, 0, none⟩) L.length L.length) ∧
      seOk Try.prog (.pointer (some ⟨g, P * 5, none⟩)) (.agg #[.string key, .slice a3 n c3, .int .i64 now, .int .i64 age, .bool false]) w3 = true ∧ seW Try.prog (.pointer (some ⟨g, P * 5, none⟩)) (.agg #[.string key, .slice a3 n c3, .int .i64 now, .int .i64 age, .bool false]) w3 = w4 ∧ RT x w4 r g K (L.set P ⟨key, strN l, now, age, false⟩) h ∧ Kept g g w w4 := by
  have own0 : Own ((w.alloc (.cells #[] 5)).drew) w.heap.size 5 (.slice (some ⟨w.heap.size, 0, none⟩) 0 0) (nums .u8 []) := (own_new5 w).keep fun _ _ => rfl
  have bA : Below w.heap.size w (w.alloc (.cells #[] 5)).drew := (box_below w _).drew
  obtain ⟨v3, w3, ap, ow, bl, _⟩ := run_app own0 (hs.below bA) (by simp; omega) bA.size
  rw [List.nil_append] at ow
  obtain ⟨a3, c3, hv⟩ := ow.shape
  subst hv
  have bB := bA.trans bl
  have hby : byt (strN l) = l := byt_strN l hs.byte
  obtain ⟨w4, hst, hrt, hk⟩ := t.store bB P hP ⟨key, strN l, now, age, false⟩ hI _ (by show Own _ _ _ _ _; rw [hby]; exact ow.low) (fun e => by have := (ow.block e).1; omega)
  rw [nums_length, hs.hlen] at ap hst
  obtain ⟨q1, q2, q3⟩ := ap_of ap
  obtain ⟨q4, q5⟩ := se_of hst
  exact ⟨a3, c3, w3, w4, q1, q2, q3, (t.below bB).cellR.2.2, q4, q5, hrt, hk⟩
attribute [local go_sem ↓] run_opap run_opse Go.wp_at_zero Go.wp_at_succ
set_option maxRecDepth 100000 in
set_option maxHeartbeats 8000000 in
theorem rput_at (x r g K h : Nat) (L : List Sl) (now : Int) (key : ByteArray) (a : Option Addr) (n c : Nat) (l : List Nat) (age : Int) (w : World) (t : RT x w r g K L h) (hs : Src w a n c l) (ho : Off a n r ∧ Off a n g) (hx : x < w.heap.size) :
    Calls Try.prog 14 #[.pointer (some ⟨r, 0, none⟩), .int .i64 now, .string key, .slice a n c, .int .i64 age] w fun e w' => e = .returned (.int .i64 (code K L now key n age)) ∧ RT x w' r g K (put K L h now key (strN l) age).1 (put K L h now key (strN l) age).2 ∧ Kept r g w w' := by
  have hlen := hs.hlen
  have hsz : (strN l).size = n := by rw [strN_size, hlen]
  by_cases hb : badPut now key age
  · have hc : code K L now key n age = 2 := by unfold code; rw [if_pos hb]
    rw [hc, put_bad (by rw [hsz, hc]; omega)]
    refine (rput_bad r now key a n c age w hb).mono ?_
    rintro e w' ⟨rfl, rfl⟩
    exact ⟨rfl, t, Kept.refl _ _ _⟩
  have HW := fun w' => hide (rwhen_at now w')
  have HKY := fun w' => hide (rkey_at key w')
  rw [show decide (¬ badNow now) = true from decide_eq_true (fun e => hb (Or.inl e))] at HW
  rw [show decide (¬ badKey key) = true from decide_eq_true (fun e => hb (Or.inr (Or.inl e)))] at HKY
  have hage : ¬ badAge age := fun e => hb (Or.inr (Or.inr e))
  unfold badAge at hage
  have d1 : decide (age < 1) = false := decide_eq_false (by omega)
  have d2 : decide (age > 1048576) = false := decide_eq_false (by omega)
  have d2' : decide (1048576 < age) = false := decide_eq_false (by omega)
  obtain ⟨c0, c1, c2⟩ := t.cellR
  obtain ⟨hlr, hlg⟩ := t.lt
  obtain ⟨N, hN⟩ : ∃ N, N = L.length := ⟨_, rfl⟩
  have hm := t.inv.max
  have hkp := t.inv.keep
  have hcap := hs.hcap
  have hmx := hs.hmax
  unfold maxLen at hmx
  rw [← hN] at hm c2
  have HT := hide t
  by_cases hl : K < n
  · have hc : code K L now key n age = 3 := by unfold code; rw [if_neg hb, if_pos hl]
    rw [hc, put_bad (by rw [hsz, hc]; omega)]
    have d3 : decide ((n : Int) > (K : Int)) = true := decide_eq_true (by omega)
    have d3' : decide ((K : Int) < (n : Int)) = true := decide_eq_true (by omega)
    have d3'' : decide (K < n) = true := decide_eq_true (by omega)
    clear hc hb hage hN t hs ho hlen hsz
    go_enter Try.func14, Try.ntmps14
    go_wp2_with fail
    refine (HW _).out.mono ?_
    rintro e w1 ⟨rfl, rfl⟩
    go_wp2_with fail
    refine (HKY _).out.mono ?_
    rintro e w1 ⟨rfl, rfl⟩
    go_wp2_with fail
    go_ret
    exact ⟨rfl, HT.out, Kept.refl _ _ _⟩
  have d3 : decide ((n : Int) > (K : Int)) = false := decide_eq_false (by omega)
  have d3' : decide ((K : Int) < (n : Int)) = false := decide_eq_false (by omega)
  have d3'' : decide (K < n) = false := decide_eq_false (by omega)
  by_cases h0 : N = 0
  · have hc : code K L now key n age = 4 := by unfold code; rw [if_neg hb, if_neg hl, if_pos (by omega)]
    rw [hc, put_bad (by rw [hsz, hc]; omega)]
    have d4 : ((N : Int) == 0) = true := by simp [h0]
    clear hc hb hage hN t hs ho hlen hsz h0
    go_enter Try.func14, Try.ntmps14
    go_wp2_with fail
    refine (HW _).out.mono ?_
    rintro e w1 ⟨rfl, rfl⟩
    go_wp2_with fail
    refine (HKY _).out.mono ?_
    rintro e w1 ⟨rfl, rfl⟩
    go_wp2_with fail
    go_ret
    exact ⟨rfl, HT.out, Kept.refl _ _ _⟩
  have d4 : ((N : Int) == 0) = false := by simp; omega
  have hc : code K L now key n age = 0 := code_of hb (by omega) (by omega)
  have hput := put_good (K := K) (L := L) (h := h) (now := now) (key := key) (b := strN l) (age := age) (by rw [hsz]; exact hc)
  have hinv := put_inv t.inv now key (strN l) age
  rw [hput] at hinv
  rw [hc, hput]
  have hn6 : n ≤ 65536 := by omega
  have HN6 := hide hn6
  have HF := hide (rfind_at r g L.length L key w t.reads)
  have HS := hide hs
  have HO := hide ho
  have HX := hide hx
  have HSV : Hid (∀ wv, Kept r g w wv → Src wv a n c l ∧ x < wv.heap.size) := fun wv k => ⟨HS.out.keep (fun z b o e => k.block b (HS.out.lt z e) (HO.out.1 z b o e) (HO.out.2 z b o e)) k.size, by have := k.size; omega⟩
  have HBN : Hid (¬ badNow now) := fun e => hb (Or.inl e)
  have HN := hide hN
  clear hc hput hb hage hs ho hlen hsz hx
  by_cases hf : fidx key L < L.length
  · have hpl : place L h now key = (L, h, fidx key L) := by unfold place; rw [if_pos hf]
    rw [show rfi key L = (fidx key L : Nat) by unfold rfi; rw [if_pos hf]] at HF
    have HL := hide hf
    unfold putS at hinv ⊢
    rw [hpl] at hinv ⊢
    obtain ⟨P, hP⟩ : ∃ P, P = fidx key L := ⟨_, rfl⟩
    rw [← hP] at HF HL hinv ⊢
    simp only at hinv ⊢
    have hPN : P < N := by rw [hN]; exact HL.out
    have HI := hide hinv
    have d5 : decide ((P : Int) < 0) = false := decide_eq_false (by omega)
    clear hinv hpl hP hf t hN
    go_enter Try.func14, Try.ntmps14
    go_wp2_with fail
    refine (HW _).out.mono ?_
    rintro e w1 ⟨rfl, rfl⟩
    go_wp2_with fail
    refine (HKY _).out.mono ?_
    rintro e w1 ⟨rfl, rfl⟩
    go_wp2_with fail
    refine HF.out.mono ?_
    rintro e w2 ⟨rfl, k2⟩
    have TV := hide (HT.out.below k2)
    have KV : Hid (Kept r g w w2) := Kept.of_below k2
    clear k2 c0 c1 c2 hlr hlg
    obtain ⟨a3, c3, y3, y4, q1, q2, q3, q0, q4, q5, hrt, hkk⟩ := rput_step TV.out (HSV.out _ KV.out).2 (HSV.out _ KV.out).1 HN6.out HL.out HI.out
    have HRT := hide hrt
    have HKK := hide (KV.out.trans (hkk.wide (Or.inr rfl)))
    have y0 := TV.out.cellR.2.2
    rw [← HN.out] at y0 q0
    have y0a := cell_below y0 (box_below w2 (.cells #[] 5)).drew
    have yl := TV.out.lt
    have n1 : r ≠ w2.heap.size := by omega
    have n2 : g ≠ w2.heap.size := by omega
    clear hrt hkk yl
    go_wp2_with fail
    go_region
    all_goals
      go_wp2_with fail
      go_ret
      exact ⟨rfl, HRT.out, HKK.out⟩
  have hrf : rfi key L = -1 := by unfold rfi; rw [if_neg hf]
  rw [hrf] at HF
  have HF2 := fun wv (k : Below w.heap.size w wv) => hide (rfind_at r g L.length L noN wv (t.below k).reads)
  clear hrf
  by_cases hf2 : fidx noN L < L.length
  · have hpl : place L h now key = (L, h, fidx noN L) := by unfold place; rw [if_neg hf, if_pos hf2]
    rw [show rfi noN L = (fidx noN L : Nat) by unfold rfi; rw [if_pos hf2]] at HF2
    have HL := hide hf2
    unfold putS at hinv ⊢
    rw [hpl] at hinv ⊢
    obtain ⟨P, hP⟩ : ∃ P, P = fidx noN L := ⟨_, rfl⟩
    rw [← hP] at HF2 HL hinv ⊢
    simp only at hinv ⊢
    have hPN : P < N := by rw [hN]; exact HL.out
    have HI := hide hinv
    have d5 : decide ((P : Int) < 0) = false := decide_eq_false (by omega)
    clear hinv hpl hP hf hf2 t hN
    go_enter Try.func14, Try.ntmps14
    go_wp2_with fail
    refine (HW _).out.mono ?_
    rintro e w1 ⟨rfl, rfl⟩
    go_wp2_with fail
    refine (HKY _).out.mono ?_
    rintro e w1 ⟨rfl, rfl⟩
    go_wp2_with fail
    refine HF.out.mono ?_
    rintro e w2 ⟨rfl, k2⟩
    have K2 := hide k2
    clear k2
    go_wp2_with fail
    refine (HF2 _ K2.out).out.mono ?_
    rintro e w3 ⟨rfl, k3⟩
    have K3 := hide (K2.out.trans (k3.mono K2.out.size))
    have TV := hide (HT.out.below K3.out)
    have KV : Hid (Kept r g w w3) := Kept.of_below K3.out
    clear k3 c0 c1 c2 hlr hlg
    obtain ⟨a3, c3, y3, y4, q1, q2, q3, q0, q4, q5, hrt, hkk⟩ := rput_step TV.out (HSV.out _ KV.out).2 (HSV.out _ KV.out).1 HN6.out HL.out HI.out
    have HRT := hide hrt
    have HKK := hide (KV.out.trans (hkk.wide (Or.inr rfl)))
    have y0 := TV.out.cellR.2.2
    rw [← HN.out] at y0 q0
    have y0a := cell_below y0 (box_below w3 (.cells #[] 5)).drew
    have yl := TV.out.lt
    have n1 : r ≠ w3.heap.size := by omega
    have n2 : g ≠ w3.heap.size := by omega
    clear hrt hkk yl
    go_wp2_with fail
    go_region
    all_goals
      go_wp2_with fail
      go_ret
      exact ⟨rfl, HRT.out, HKK.out⟩
  have hpl : place L h now key = ((spin now (cntA L) L h).1, ((spin now (cntA L) L h).2 + 1) % L.length, (spin now (cntA L) L h).2) := by unfold place; rw [if_neg hf, if_neg hf2]
  rw [show rfi noN L = -1 by unfold rfi; rw [if_neg hf2]] at HF2
  have hlp : 0 < L.length := by omega
  have hpi := place_inv now key t.inv hlp
  unfold putS at hinv ⊢
  rw [hpl] at hinv hpi ⊢
  obtain ⟨S, hS⟩ : ∃ S, S = spin now (cntA L) L h := ⟨_, rfl⟩
  rw [← hS, ← hN] at hinv hpi ⊢
  simp only at hinv hpi ⊢
  have HSP := hide hS
  have HI := hide hinv
  have HPI := hide hpi.1
  have HSL : Hid (S.1.length = N ∧ S.2 < N) := ⟨by rw [nms_len hpi.2.1, hN], hpi.2.2.1⟩
  have HH0 : Hid (h < N) := by show h < N; rw [hN]; exact t.inv.pos hlp
  clear hinv hpl hS hf hf2 t hN hlp hpi
  go_enter Try.func14, Try.ntmps14
  go_wp2_with fail
  refine (HW _).out.mono ?_
  rintro e w1 ⟨rfl, rfl⟩
  go_wp2_with fail
  refine (HKY _).out.mono ?_
  rintro e w1 ⟨rfl, rfl⟩
  go_wp2_with fail
  refine HF.out.mono ?_
  rintro e w2 ⟨rfl, k2⟩
  have K2 := hide k2
  clear k2
  go_wp2_with fail
  refine (HF2 _ K2.out).out.mono ?_
  rintro e w3 ⟨rfl, k3⟩
  have K3 := hide (K2.out.trans (k3.mono K2.out.size))
  have TV := hide (HT.out.below K3.out)
  have KV : Hid (Kept r g w w3) := Kept.of_below K3.out
  clear k3 c0 c1 c2 hlr hlg
  go_wp2_with fail
  go_loopg [] (cntA L) (fun k wr => ∃ (L' : List Sl) (h' : Nat), k = cntA L' ∧ h' < N ∧ Hid (RT x wr r g K L' h') ∧ Hid (L'.length = N) ∧ Hid (S = spin now (cntA L') L' h') ∧ Hid (Kept r g w wr))
  case atStart => exact ⟨L, h, rfl, HH0.out, TV, HN.out.symm, HSP, KV⟩
  case round =>
    have HNN := HN
    clear TV KV HSP HN HT
    obtain ⟨L', h', HG, hh, HT, HN, HS2, HK⟩ := hrel
    obtain ⟨_, c1, c2⟩ := HT.out.cellR
    rw [HN.out] at c2
    have hhL : h' < L'.length := by rw [HN.out]; exact hh
    have HHL := hide hhL
    obtain ⟨v, e0, e1, e2, e3, e4, e5, _⟩ := HT.out.cells hhL
    obtain ⟨ya, yc, rfl, _⟩ := byV_src e5
    have HFR := fun ya yn yc w' => hide (rfresh_at (at0 L' h') K ya yn yc now w' (HT.out.inv.ok _ _ (get_at0 hhL)) HBN.out)
    clear e5 hhL
    by_cases hst : stays (at0 L' h') now = true
    · have hss : (at0 L' h').asked = true ∧ fresh (at0 L' h') now = true := by unfold stays at hst; simpa using hst
      have HP : Hid (cntA L' = cntA (calmed L' h') + 1) := cntA_calmed HHL.out hss.1
      have HE : Hid (S = spin now (cntA (calmed L' h')) (calmed L' h') ((h' + 1) % L'.length)) := HS2.out.trans (spin_step HHL.out hst)
      have hci := (calmed_inv HT.out.inv HHL.out hss.1).1
      have HCI := hide hci
      have HCI5 : Hid (Inv K (calmed L' h') h') := ⟨hci.ok, hci.uniq, Or.inl (by rw [calmed_length]; exact HHL.out), hci.max, hci.keep⟩
      obtain ⟨Q1, hQ1⟩ : ∃ Q1, Q1 = (h' + 1) % N := ⟨_, rfl⟩
      obtain ⟨A1, hA1⟩ : ∃ A1 : Nat, A1 = h' + 1 := ⟨_, rfl⟩
      have a1 : (h' : Int) + 1 = A1 := by omega
      have a2 : IntKind.i64.wrap (A1 : Int) = A1 := wrap_int _ (by omega) (by omega)
      have a3 : Int.tmod (A1 : Int) (N : Int) = Q1 := by rw [Int.tmod_eq_emod_of_nonneg (by omega), hQ1, hA1]; omega
      have hQ2 : Q1 < N := by rw [hQ1]; exact Nat.mod_lt _ (by omega)
      have a4 : IntKind.i64.wrap (Q1 : Int) = Q1 := wrap_int _ (by omega) (by omega)
      have HQ1 := hide hQ1
      clear hci hA1 hQ1
      rw [hss.2] at HFR
      rw [hss.1] at e4
      generalize (at0 L' h').bs.size = yn at e1
      obtain ⟨s, hsl⟩ : ∃ s, s = at0 L' h' := ⟨_, rfl⟩
      rw [← hsl] at e0 e2 e3 HFR
      have hsa : s.asked = true := by rw [hsl]; exact hss.1
      clear hst hss hsl
      obtain ⟨k, b, p, q, ak⟩ := s
      simp only at e0 e2 e3 HFR hsa
      subst hsa
      go_wp2_with fail
      go_region_held3 (fun w' => w'.cell? ⟨r, 1, none⟩ = some (.int .i64 (h' : Nat)) ∧ w'.cell? ⟨r, 2, none⟩ = some (.slice (some ⟨g, 0, none⟩) N N) ∧ w'.cell? ⟨g, h' * 5, none⟩ = some (.string k) ∧ w'.cell? ⟨g, h' * 5 + 1, none⟩ = some (.slice ya yn yc) ∧ w'.cell? ⟨g, h' * 5 + 2, none⟩ = some (.int .i64 p) ∧ w'.cell? ⟨g, h' * 5 + 3, none⟩ = some (.int .i64 q) ∧ w'.cell? ⟨g, h' * 5 + 4, none⟩ = some (.bool true)) (first | assumption | exact ⟨by assumption, by assumption, by assumption, by assumption, by assumption, by assumption, by assumption⟩ | go_keep) (first | (go_at_call 38; refine (HFR _ _ _ _).out.mono ?_; rintro e w4 ⟨rfl, k4⟩; have kk : Below wr.heap.size wr w4 := (Below.refl _ _).drew.trans k4; have T4 := hide (HT.out.below kk); have KK := hide (HK.out.trans (Kept.of_below kk)); have f1 := cell_below c1 kk; have f2 := cell_below c2 kk; have g0 := cell_below e0 kk; have g1 := cell_below e1 kk; have g2 := cell_below e2 kk; have g3 := cell_below e3 kk; have f4 := cell_below e4 kk; have fz := (T4.out.frozen (h' * 5 + 4)).2; clear k4 kk))
      all_goals
        clear g0 g1 g2 g3 e0 e1 e2 e3 e4 c1 c2
        go_wp2_with fail
        go_region
        all_goals
          go_wp2_with fail
          have T5 := hide ((T4.out.ask HHL.out false (HCI5.out)).below (Below.refl _ _).drew)
          obtain ⟨_, m1, m2⟩ := T5.out.cellR
          rw [List.length_set, HN.out] at m2
          have mz := (T5.out.frozen 1).1
          have K5 := hide (KK.out.setCell (p := ⟨g, h' * 5 + 4, none⟩) (Or.inr rfl) (.bool false))
          obtain ⟨W5, hW5⟩ : ∃ W5, W5 = (w4.setCell ⟨g, h' * 5 + 4, none⟩ (.bool false)).drew := ⟨_, rfl⟩
          have K5' : Hid (Kept r g w W5) := by rw [hW5]; exact K5.out.drewN 1
          rw [← hW5] at T5 m1 m2 mz
          rw [← hW5]
          have T6 := hide (T5.out.go Q1 (by have := HCI.out; rw [HN.out, ← HQ1.out] at this; exact this))
          have K6 := hide (K5'.out.setCell (p := ⟨r, 1, none⟩) (Or.inl rfl) (.int .i64 (Q1 : Nat)))
          clear hW5 K5 T5 K5'
          go_region
          all_goals
            go_wp2_with fail
            go_roundg (cntA (calmed L' h'))
            case measure => have := HP.out; omega
            case rel => exact ⟨calmed L' h', Q1, rfl, hQ2, T6.out.below (Below.refl _ _).drew, by show _ = _; rw [calmed_length]; exact HN.out, by have := HE.out; rw [HN.out, ← HQ1.out] at this; exact this, K6.out.drewN 1⟩
    · have hst : stays (at0 L' h') now = false := by simpa using hst
      have hE : S = (L', h') := HS2.out.trans (spin_stop hst _)
      subst hE
      simp only at HI HPI
      obtain ⟨Q1, hQ1⟩ : ∃ Q1, Q1 = (h' + 1) % N := ⟨_, rfl⟩
      rw [← hQ1] at HI HPI
      have HQ1 := hide hQ1
      obtain ⟨A1, hA1⟩ : ∃ A1 : Nat, A1 = h' + 1 := ⟨_, rfl⟩
      have a1 : (h' : Int) + 1 = A1 := by omega
      have a2 : IntKind.i64.wrap (A1 : Int) = A1 := wrap_int _ (by omega) (by omega)
      have a3 : Int.tmod (A1 : Int) (N : Int) = Q1 := by rw [Int.tmod_eq_emod_of_nonneg (by omega), hQ1, hA1]; omega
      have hQ2 : Q1 < N := by rw [hQ1]; exact Nat.mod_lt _ (by omega)
      have a4 : IntKind.i64.wrap (Q1 : Int) = Q1 := wrap_int _ (by omega) (by omega)
      have hPN : h' < N := hh
      have hcs : (at0 L' h').asked = false ∨ ((at0 L' h').asked = true ∧ fresh (at0 L' h') now = false) := by
        unfold stays at hst
        cases ha : (at0 L' h').asked with
        | false => exact Or.inl rfl
        | true => rw [ha] at hst; exact Or.inr ⟨rfl, by simpa using hst⟩
      generalize (at0 L' h').bs.size = yn at e1
      obtain ⟨s, hsl⟩ : ∃ s, s = at0 L' h' := ⟨_, rfl⟩
      rw [← hsl] at e0 e2 e3 e4 HFR hcs
      clear hst hsl hA1 hQ1 HS2 HSL
      obtain ⟨k, b, p, q, ak⟩ := s
      simp only at e0 e2 e3 e4 HFR hcs
      rcases hcs with rfl | ⟨rfl, hfr⟩
      · go_wp2_with fail
        go_region
        all_goals
          have T4 := hide (HT.out.below (Below.refl _ _).drew)
          have KK := hide (HK.out.trans (Kept.of_below (Below.refl _ _).drew))
          obtain ⟨_, m1, m2⟩ := T4.out.cellR
          rw [HN.out] at m2
          have mz := (T4.out.frozen 1).1
          have T6 := hide (T4.out.go Q1 HPI.out)
          have K6 := hide (KK.out.setCell (p := ⟨r, 1, none⟩) (Or.inl rfl) (.int .i64 (Q1 : Nat)))
          clear e0 e1 e2 e3 e4 c1 c2
          go_wp2_with fail
          go_region
          all_goals
            go_wp2_with fail
            obtain ⟨W7, hW7⟩ : ∃ W7, W7 = (wr.setCell ⟨r, 1, none⟩ (.int .i64 (Q1 : Nat))).drew.drew := ⟨_, rfl⟩
            have TV : Hid (RT x W7 r g K L' Q1) := by rw [hW7]; exact (HT.out.go Q1 HPI.out).below (Below.refl _ _).drew.drew
            have KV : Hid (Kept r g w W7) := by rw [hW7]; exact ((HK.out.setCell (p := ⟨r, 1, none⟩) (Or.inl rfl) (.int .i64 (Q1 : Nat))).drewN 1).drewN 1
            rw [← hW7]
            clear hW7 T4 KK T6 K6 m1 m2 mz HT HK
            obtain ⟨a3, c3, y3, y4, q1, q2, q3, q0, q4, q5, hrt, hkk⟩ := rput_step TV.out (HSV.out _ KV.out).2 (HSV.out _ KV.out).1 HN6.out HHL.out HI.out
            have HRT := hide hrt
            have HKK := hide (KV.out.trans (hkk.wide (Or.inr rfl)))
            have y0 := TV.out.cellR.2.2
            rw [HN.out] at y0 q0
            have y0a := cell_below y0 (box_below W7 (.cells #[] 5)).drew
            have yl := TV.out.lt
            have n1 : r ≠ W7.heap.size := by omega
            have n2 : g ≠ W7.heap.size := by omega
            clear hrt hkk yl
            go_wp2_with fail
            go_region
            all_goals
              go_wp2_with fail
              go_ret
              exact ⟨rfl, by have := HRT.out; rw [HQ1.out] at this; exact this, HKK.out⟩
      · rw [hfr] at HFR
        clear hfr
        go_wp2_with fail
        go_region_held3 (fun w' => w'.cell? ⟨r, 1, none⟩ = some (.int .i64 (h' : Nat)) ∧ w'.cell? ⟨r, 2, none⟩ = some (.slice (some ⟨g, 0, none⟩) N N) ∧ w'.cell? ⟨g, h' * 5, none⟩ = some (.string k) ∧ w'.cell? ⟨g, h' * 5 + 1, none⟩ = some (.slice ya yn yc) ∧ w'.cell? ⟨g, h' * 5 + 2, none⟩ = some (.int .i64 p) ∧ w'.cell? ⟨g, h' * 5 + 3, none⟩ = some (.int .i64 q) ∧ w'.cell? ⟨g, h' * 5 + 4, none⟩ = some (.bool true)) (first | assumption | exact ⟨by assumption, by assumption, by assumption, by assumption, by assumption, by assumption, by assumption⟩ | go_keep) (first | (go_at_call 38; refine (HFR _ _ _ _).out.mono ?_; rintro e w4 ⟨rfl, k4⟩; have kk : Below wr.heap.size wr w4 := (Below.refl _ _).drew.trans k4; have T4 := hide (HT.out.below kk); have KK := hide (HK.out.trans (Kept.of_below kk)); have f1 := cell_below c1 kk; have f2 := cell_below c2 kk; have g0 := cell_below e0 kk; have g1 := cell_below e1 kk; have g2 := cell_below e2 kk; have g3 := cell_below e3 kk; have f4 := cell_below e4 kk; have fz := (T4.out.frozen (h' * 5 + 4)).2; clear k4 kk))
        all_goals
          have T6 := hide (T4.out.go Q1 HPI.out)
          have K6 := hide (KK.out.setCell (p := ⟨r, 1, none⟩) (Or.inl rfl) (.int .i64 (Q1 : Nat)))
          have mz := (T4.out.frozen 1).1
          clear e0 e1 e2 e3 e4 c1 c2 g0 g1 g2 g3 f4 fz
          go_wp2_with fail
          go_region
          all_goals
            go_wp2_with fail
            obtain ⟨W7, hW7⟩ : ∃ W7, W7 = (w4.setCell ⟨r, 1, none⟩ (.int .i64 (Q1 : Nat))).drew := ⟨_, rfl⟩
            have TV : Hid (RT x W7 r g K L' Q1) := by rw [hW7]; exact T6.out.below (Below.refl _ _).drew
            have KV : Hid (Kept r g w W7) := by rw [hW7]; exact K6.out.drewN 1
            rw [← hW7]
            clear hW7 T4 KK T6 K6 f1 f2 mz HT HK
            obtain ⟨a3, c3, y3, y4, q1, q2, q3, q0, q4, q5, hrt, hkk⟩ := rput_step TV.out (HSV.out _ KV.out).2 (HSV.out _ KV.out).1 HN6.out HHL.out HI.out
            have HRT := hide hrt
            have HKK := hide (KV.out.trans (hkk.wide (Or.inr rfl)))
            have y0 := TV.out.cellR.2.2
            rw [HN.out] at y0 q0
            have y0a := cell_below y0 (box_below W7 (.cells #[] 5)).drew
            have yl := TV.out.lt
            have n1 : r ≠ W7.heap.size := by omega
            have n2 : g ≠ W7.heap.size := by omega
            clear hrt hkk yl
            go_wp2_with fail
            go_region
            all_goals
              go_wp2_with fail
              go_ret
              exact ⟨rfl, by have := HRT.out; rw [HQ1.out] at this; exact this, HKK.out⟩
end Go.Proofs.Ytcihkdmndpdmoaa
