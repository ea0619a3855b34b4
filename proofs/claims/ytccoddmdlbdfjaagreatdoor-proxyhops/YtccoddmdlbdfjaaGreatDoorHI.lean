/-
  readStatus and End of package head; conditions as each theorem has them.
-/
import Derived.Test.YtccoddmdlbdfjaaGreatDoorJoinedHE
import Derived.Lib.SlBytesConst
set_option linter.unusedSimpArgs false
set_option linter.unusedVariables false
namespace Go.Proofs.YtccoddmdlbdfjaaGreatDoor
open Go.RowKit

/-- A slice of the bytes l, wherever it lies. -/
structure Src (w : World) (a : Option Addr) (len cap : Nat) (l : List Nat) : Prop where
  hlen : l.length = len
  hcap : len ≤ cap
  hmax : cap ≤ maxLen
  nil : a = none → cap = 0
  lies : 0 < len → ∃ b o, a = some ⟨b, o, none⟩ ∧ b < w.heap.size ∧ ∀ i, i < len → w.cell? ⟨b, o + i, none⟩ = some (.int .u8 (l.getD i 0 : Nat))
  byte : ∀ x ∈ l, x < 256
theorem Src.keep {w w' : World} {a : Option Addr} {len cap : Nat} {l : List Nat} (h : Src w a len cap l) (hk : 0 < len → ∀ b o, a = some ⟨b, o, none⟩ → w'.heap[b]? = w.heap[b]?) (hs : w.heap.size ≤ w'.heap.size) : Src w' a len cap l := by
  refine ⟨h.hlen, h.hcap, h.hmax, h.nil, fun h0 => ?_, h.byte⟩
  obtain ⟨b, o, e, hb, hc⟩ := h.lies h0
  exact ⟨b, o, e, by omega, fun i hi => (World.cell?_of_block (hk h0 b o e)).trans (hc i hi)⟩
theorem Src.lt {w : World} {a : Option Addr} {len cap : Nat} {l : List Nat} (h : Src w a len cap l) (h0 : 0 < len) {b o : Nat} (e : a = some ⟨b, o, none⟩) : b < w.heap.size := by
  obtain ⟨b', o', e', hb, hc⟩ := h.lies h0
  rw [e] at e'
  simp only [Option.some.injEq, Addr.mk.injEq, and_true] at e'
  omega
theorem Src.below {w w' : World} {a : Option Addr} {len cap : Nat} {l : List Nat} (h : Src w a len cap l) (k : Below w.heap.size w w') : Src w' a len cap l :=
  h.keep (fun h0 b o e => k.block b (h.lt h0 e)) k.size
theorem Src.nilS (w : World) : Src w none 0 0 [] := ⟨rfl, Nat.le_refl _, Nat.zero_le _, fun _ => rfl, fun h => by omega, by simp⟩
/-- The first k bytes. -/
theorem Src.take {w : World} {a : Option Addr} {len cap : Nat} {l : List Nat} (h : Src w a len cap l) {k : Nat} (hk : k ≤ len) : Src w a k cap (l.take k) := by
  refine ⟨by rw [List.length_take, h.hlen]; omega, by have := h.hcap; omega, h.hmax, h.nil, fun h0 => ?_, fun x hx => h.byte x (List.mem_of_mem_take hx)⟩
  obtain ⟨b, o, e, hb, hc⟩ := h.lies (by omega)
  refine ⟨b, o, e, hb, fun i hi => ?_⟩
  rw [hc i (by omega)]
  simp [List.getD, List.getElem?_take, hi]
theorem Src.drewN {w : World} {a : Option Addr} {len cap : Nat} {l : List Nat} (h : Src w a len cap l) (n : Nat) : Src (w.drewN n) a len cap l := h.keep (fun _ _ _ _ => rfl) (Nat.le_refl _)

theorem three {l : List Nat} (h : l.length = 3) : ∃ a b c, l = [a, b, c] := by
  match l, h with
  | [a, b, c], _ => exact ⟨a, b, c, rfl⟩
set_option maxRecDepth 100000 in
set_option maxHeartbeats 2000000 in
theorem readStatus_at (t : ByteArray) (w : World) (hm : t.size ≤ 8192) : Calls Tryz.prog 101 #[.string t] w fun e w' => ∃ n : Nat, e = .returned (.tuple #[.int .i64 (n : Int), .bool (stat (byt t)).isSome]) ∧ (∀ m, stat (byt t) = some m → n = m) ∧ Below w.heap.size w w' := by
  have HW := hide (within_at t 48 57 w (by omega))
  have hdig : within 48 57 (byt t) = (byt t).all dig := by
    unfold within; congr 1
  rw [hdig] at HW
  have HLT : Hid (∀ k, (byt t).getD k 0 < 256) := fun k => getD_lt (byt_lt t) k
  obtain ⟨l, hl⟩ : ∃ l, l = byt t := ⟨_, rfl⟩
  rw [← hl] at HLT HW ⊢
  obtain ⟨N, hN⟩ : ∃ N, N = t.size := ⟨_, rfl⟩
  have hNL : N = l.length := by rw [hN, hl, byt_length]
  have hNI : (t.size : Int) = (N : Int) := by rw [hN]
  by_cases h3 : N = 3
  · have e3 : ((N : Int) != 3) = false := by simp; omega
    have e3' : ((N : Int) == 3) = true := by simp; omega
    cases hall : l.all dig with
    | true =>
      rw [hall] at HW
      obtain ⟨a, b, c, habc⟩ := three (show l.length = 3 by omega)
      have hd : (48 ≤ a ∧ a ≤ 57) ∧ (48 ≤ b ∧ b ≤ 57) ∧ 48 ≤ c ∧ c ≤ 57 := by
        rw [habc] at hall
        simp only [List.all_cons, List.all_nil, Bool.and_true, Bool.and_eq_true, dig_iff] at hall
        exact ⟨hall.1, hall.2.1, hall.2.2⟩
      obtain ⟨⟨ha1, ha2⟩, ⟨hb1, hb2⟩, hc1, hc2⟩ := hd
      have hval : val 0 l = (a - 48) * 100 + (b - 48) * 10 + (c - 48) := by rw [habc]; simp [val, step]; omega
      obtain ⟨v, hv⟩ : ∃ v, v = val 0 l := ⟨_, rfl⟩
      have hst : stat l = if 100 ≤ v ∧ v ≤ 599 then some v else none := by
        unfold stat
        rw [← hv]
        by_cases h : 100 ≤ v ∧ v ≤ 599
        · rw [if_pos ⟨by omega, hall, h.1, h.2⟩, if_pos h]
        · rw [if_neg (fun g => h ⟨g.2.2.1, g.2.2.2⟩), if_neg h]
      have HST := hide hst
      have hvI : (10 * (10 * (10 * (0 : Int) + ((a : Int) - 48)) + ((b : Int) - 48)) + ((c : Int) - 48)) = (v : Int) := by rw [hv, hval]; omega
      have HS : Hid (∀ W, Calls Tryz.prog 76 #[.int .i64 (v : Int)] W fun e w' => e = .returned (.bool (decide (100 ≤ (v : Int)) && decide ((v : Int) ≤ 599))) ∧ W = w') := fun W => isStatus_at v W
      rw [habc] at hl
      have HL := hide hl
      have HN := hide hN
      clear hall habc hval hst hv hl hN hNL hdig
      subst h3
      go_enter Tryz.func101, Tryz.ntmps101
      go_wp2_with fail
      refine HW.out.mono ?_
      rintro e w1 ⟨rfl, hb1'⟩
      obtain ⟨cap, w2, hcv, hcap, hb2', hbeg⟩ := conv_bytes t w1
      rw [← HN.out] at hcv hcap
      rw [← HL.out] at hbeg
      have g0 := hbeg.cell (j := 0) (by simp)
      have g1 := hbeg.cell (j := 1) (by simp)
      have g2 := hbeg.cell (j := 2) (by simp)
      simp only [List.getD, List.getElem?_cons_zero, List.getElem?_cons_succ, Option.getD_some] at g0 g1 g2
      have HB := hide (hb1'.trans (hb2'.mono hb1'.size))
      clear hb1' hb2' hbeg HW
      go_wp2_with fail
      refine wp_loop_rounds 4 ?_
      rw [rounds_succ]
      go_wp2_with fail
      rw [rounds_succ]
      go_wp2_with fail
      rw [rounds_succ]
      go_wp2_with fail
      rw [rounds_succ]
      go_wp2_with fail
      rw [show (10 * (10 * ((a : Int) - 48) + ((b : Int) - 48)) + ((c : Int) - 48)) = (v : Int) by omega]
      refine (HS.out _).mono ?_
      rintro e w3 ⟨rfl, rfl⟩
      go_wp2_with fail
      go_ret2
      refine ⟨v, ?_, ?_, HB.out⟩
      · rw [HST.out]
        by_cases h : 100 ≤ v ∧ v ≤ 599
        · rw [if_pos h]
          have h1 : decide (100 ≤ (v : Int)) = true := decide_eq_true (by omega)
          have h2 : decide ((v : Int) ≤ 599) = true := decide_eq_true (by omega)
          simp [h1, h2]
        · rw [if_neg h]
          have h1 : (decide (100 ≤ (v : Int)) && decide ((v : Int) ≤ 599)) = false := by simp; omega
          simp
          omega
      · intro m hm
        rw [HST.out] at hm
        split at hm
        · exact Option.some.inj hm
        · cases hm
    | false =>
      rw [hall] at HW
      have hst : stat l = none := by unfold stat; rw [if_neg (fun g => by rw [hall] at g; simp at g)]
      rw [hst]
      clear hall hst hl hN hNL hdig
      go_enter Tryz.func101, Tryz.ntmps101
      go_wp2_with fail
      refine HW.out.mono ?_
      rintro e w1 ⟨rfl, hb1'⟩
      have HB := hide hb1'
      clear hb1' HW
      go_wp2_with fail
      go_ret2
      exact ⟨0, rfl, (fun m h => by cases h), HB.out⟩
  · have e3 : ((N : Int) != 3) = true := by simp; omega
    have e3' : ((N : Int) == 3) = false := by simp; omega
    have hst : stat l = none := by unfold stat; rw [if_neg (fun g => h3 (by omega))]
    rw [hst]
    clear hst hl hN hNL h3 hdig
    go_enter Tryz.func101, Tryz.ntmps101
    go_wp2_with fail
    go_ret2
    exact ⟨0, rfl, (fun m h => by cases h), Below.refl _ _⟩

def up (l : List Nat) : List Int := l.map fun (x : Nat) => (x : Int)
theorem up_length (l : List Nat) : (up l).length = l.length := by simp [up]
theorem up_getD (l : List Nat) (i : Nat) : (up l).getD i 0 = (l.getD i 0 : Nat) := by
  rw [up, List.getD, List.getElem?_map, List.getD]
  cases l[i]? <;> rfl
theorem up_range {l : List Nat} (h : ∀ x ∈ l, x < 256) : ∀ x ∈ up l, 0 ≤ x ∧ x < 256 := by
  intro x hx
  simp only [up, List.mem_map] at hx
  obtain ⟨y, hy, rfl⟩ := hx
  have := h y hy; omega
theorem up_bytes (l : List Nat) (h : ∀ x ∈ l, x < 256) : (Lib.bytesOf (up l)).map UInt8.toNat = l := by
  unfold Lib.bytesOf up
  rw [List.map_map, List.map_map]
  conv => rhs; rw [← List.map_id l]
  apply List.map_congr_left
  intro x hx
  have := h x hx
  simp
  omega
theorem pre2 (l : List Nat) (h : ∀ x ∈ l, x < 256) : Lib.hasPrefix (Lib.bytesOf (up l)) (Lib.bytesOf (up [13, 10])) = decide (pair l = some 0) := by
  have h2 := idx_pair (Lib.bytesOf (up l))
  rw [up_bytes l h] at h2
  show List.isPrefixOf [13, 10] (Lib.bytesOf (up l)) = _
  cases hb : ([13, 10] : List UInt8).isPrefixOf (Lib.bytesOf (up l)) with
  | true =>
    have : Lib.index (Lib.bytesOf (up l)) [13, 10] = 0 := by
      cases hl : Lib.bytesOf (up l) with
      | nil => rw [hl] at hb; simp at hb
      | cons c r => rw [hl] at hb; rw [Lib.index, if_pos hb]
    rw [this] at h2
    cases hp : pair l with
    | none => rw [hp] at h2; simp at h2
    | some k => rw [hp] at h2; simp at h2; obtain rfl : k = 0 := by omega
                simp
  | false =>
    have : ¬ pair l = some 0 := fun e => by
      rw [e] at h2
      cases hl : Lib.bytesOf (up l) with
      | nil => rw [hl] at h2; simp [Lib.index] at h2
      | cons c r =>
        rw [hl] at h2 hb
        rw [Lib.index, if_neg (by simp [hb])] at h2
        have := Lib.index_ge r [13, 10]
        by_cases g : Lib.index r [13, 10] = -1
        · rw [g] at h2; simp at h2
        · rw [if_neg (by simpa using g)] at h2; simp at h2; omega
    rw [decide_eq_false this]
/-- Where the four bytes stand first. -/
theorem idx4 : ∀ l : List UInt8, (Lib.index l [13, 10, 13, 10] = -1 ∧ ∀ k, ¬ At4 (l.map UInt8.toNat) k) ∨ ∃ k : Nat, Lib.index l [13, 10, 13, 10] = k ∧ At4 (l.map UInt8.toNat) k ∧ ∀ j, j < k → ¬ At4 (l.map UInt8.toNat) j
  | [] => Or.inl ⟨by simp [Lib.index], fun k h => by simp [At4, At2] at h⟩
  | c :: r => by
    have ih := idx4 r
    have h0 : (([13, 10, 13, 10] : List UInt8).isPrefixOf (c :: r) = true) ↔ At4 ((c :: r).map UInt8.toNat) 0 := by
      have key : ∀ (x : UInt8) (n : Nat), n < 256 → (x.toNat = n ↔ x = UInt8.ofNat n) := fun x n hn => ⟨fun e => by rw [← e]; simp, fun e => by rw [e]; simp; omega⟩
      match r with
      | [] => simp [List.isPrefixOf, At4, At2]
      | [d] => simp [List.isPrefixOf, At4, At2]
      | [d, e] => simp [List.isPrefixOf, At4, At2]
      | d :: e :: f :: r =>
        simp only [List.isPrefixOf, Bool.and_eq_true, beq_iff_eq, Bool.and_true, At4, At2, List.map_cons, List.getElem?_cons_zero, List.getElem?_cons_succ, Option.some.injEq]
        rw [key c 13 (by omega), key d 10 (by omega), key e 13 (by omega), key f 10 (by omega)]
        constructor
        · rintro ⟨h1, h2, h3, h4⟩; exact ⟨⟨h1.symm, h2.symm⟩, h3.symm, h4.symm⟩
        · rintro ⟨⟨h1, h2⟩, h3, h4⟩; exact ⟨h1.symm, h2.symm, h3.symm, h4.symm⟩
    have hs : ∀ k, At4 ((c :: r).map UInt8.toNat) (k + 1) ↔ At4 (r.map UInt8.toNat) k := fun k => by
      simp [At4, At2]
    by_cases hp : ([13, 10, 13, 10] : List UInt8).isPrefixOf (c :: r) = true
    · exact Or.inr ⟨0, by rw [Lib.index, if_pos hp]; rfl, h0.1 hp, fun j hj => by omega⟩
    · rw [Lib.index, if_neg hp]
      have hn0 : ¬ At4 ((c :: r).map UInt8.toNat) 0 := fun e => hp (h0.2 e)
      rcases ih with ⟨h1, h2⟩ | ⟨k, h1, h2, h3⟩
      · refine Or.inl ⟨by rw [h1]; rfl, fun k => ?_⟩
        cases k with
        | zero => exact hn0
        | succ k => exact fun e => h2 k ((hs k).1 e)
      · refine Or.inr ⟨k + 1, ?_, (hs k).2 h2, fun j hj => ?_⟩
        · rw [h1, if_neg (by intro e; have := beq_iff_eq.1 e; omega)]; omega
        · cases j with
          | zero => exact hn0
          | succ j => exact fun e => h3 j (by omega) ((hs j).1 e)

theorem Beg.src {w : World} {B cap : Nat} {l : List Nat} (h : Beg w B l) (hc : l.length ≤ cap) (hm : cap ≤ maxLen) (hb : ∀ x ∈ l, x < 256) : Src w (some ⟨B, 0, none⟩) l.length cap l :=
  ⟨rfl, hc, hm, (fun e => by cases e), fun h0 => ⟨B, 0, rfl, lt_of_cell (h.cell h0), fun i hi => by rw [Nat.zero_add]; exact h.cell hi⟩, hb⟩
theorem Src.bytesIn {w : World} {a : Option Addr} {len cap : Nat} {l : List Nat} (h : Src w a len cap l) : Lib.BytesIn w a len (up l) := fun h0 => by
  obtain ⟨b, o, e, hb, hc⟩ := h.lies h0
  exact ⟨b, o, e, fun i hi => by rw [up_getD]; exact hc i hi⟩
set_option maxRecDepth 100000 in
set_option maxHeartbeats 4000000 in
theorem end_at (a : Option Addr) (n c : Nat) (l : List Nat) (w : World) (h : Src w a n c l) (hV : Vars w) : Calls Tryz.prog 28 #[.slice a n c] w fun e w' => ∃ v, e = .returned (.tuple #[.int .i64 ((enE l).1 : Nat), v]) ∧ IsH w' (enE l).2 v ∧ Below w.heap.size w w' := by
  have hcc1 := Lib.run_convert_bytes_const (P := Tryz.prog) w 35 5 #[.int .u8 13, .int .u8 10] 2 2 Tryz.underlying35 Tryz.underlying5
  have hcl := h.hcap
  have hmx := h.hmax
  have hnl := h.hlen
  unfold maxLen at hmx
  obtain ⟨k, hk⟩ : ∃ k, k = min n 8192 := ⟨_, rfl⟩
  have HK : Hid (l.take k = l.take 8192) := by
    show _ = _
    rw [hk]
    by_cases hh : n ≤ 8192
    · rw [Nat.min_eq_left hh, List.take_of_length_le (by rw [h.hlen]; omega), List.take_of_length_le (by rw [h.hlen]; omega)]
    · rw [Nat.min_eq_right (by omega)]
  have hmin : min (n : Int) 8192 = (k : Int) := by rw [hk]; omega
  have hmin2 : min n 8192 = k := hk.symm
  have hkn : k ≤ n := by omega
  have hk8 : k ≤ 8192 := by omega
  obtain ⟨W1, hW1⟩ : ∃ W1, W1 = w.alloc (.cells #[.int .u8 13, .int .u8 10] 5 (2, 3)) := ⟨_, rfl⟩
  have hcv1 : (convert 35 35 (.slice (some ⟨w.heap.size, 0, none⟩) 2 2)).run Tryz.prog (w.alloc (.cells #[.int .u8 13, .int .u8 10] 5)) = .ok (.slice (some ⟨w.heap.size, 0, none⟩) 2 2) W1 := by rw [hW1]; exact hcc1
  have b1 : Below w.heap.size w W1 := by rw [hW1]; exact (Below.refl _ _).alloc (Nat.le_refl _) _
  have s1 := (h.take hkn).below b1
  have p1 : W1.heap[w.heap.size]? = some (.cells #[.int .u8 13, .int .u8 10] 5 (2, 3)) := by rw [hW1]; exact alloc_new _ _
  have hbl := s1.byte
  have HPX := hide (Tryz.bytes_HasPrefix_all a (some ⟨w.heap.size, 0, none⟩) k c 2 2 (up (l.take k)) (up [13, 10]) W1 (by rw [up_length]; exact s1.hlen) rfl (by omega) s1.bytesIn (fun _ => ⟨w.heap.size, 0, rfl, fun i hi => by
    rcases (show i = 0 ∨ i = 1 by omega) with rfl | rfl
    · simp [World.cell?, p1]; rfl
    · simp [World.cell?, p1]; rfl⟩))
  rw [pre2 _ hbl] at HPX
  obtain ⟨W2, hW2⟩ : ∃ W2, W2 = W1.alloc (.cells #[.int .u8 13, .int .u8 10, .int .u8 13, .int .u8 10] 5 (4, 5)) := ⟨_, rfl⟩
  have hcv2 : (convert 35 35 (.slice (some ⟨W1.heap.size, 0, none⟩) 4 4)).run Tryz.prog (W1.alloc (.cells #[.int .u8 13, .int .u8 10, .int .u8 13, .int .u8 10] 5)) = .ok (.slice (some ⟨W1.heap.size, 0, none⟩) 4 4) W2 := by rw [hW2]; exact Lib.run_convert_bytes_const (P := Tryz.prog) W1 35 5 #[.int .u8 13, .int .u8 10, .int .u8 13, .int .u8 10] 4 4 Tryz.underlying35 Tryz.underlying5
  have b2 : Below W1.heap.size W1 W2 := by rw [hW2]; exact (Below.refl _ _).alloc (Nat.le_refl _) _
  have p2 : W2.heap[W1.heap.size]? = some (.cells #[.int .u8 13, .int .u8 10, .int .u8 13, .int .u8 10] 5 (4, 5)) := by rw [hW2]; exact alloc_new _ _
  have s2 := s1.below b2
  have B1 := hide b1
  have B2 := hide (b1.trans (b2.mono b1.size))
  obtain ⟨m, hmv⟩ := (hV.below b1).below b2
  have HIX : Hid (Calls Tryz.prog 52 #[.slice a k c, .slice (some ⟨W1.heap.size, 0, none⟩) 4 4] W2 fun e w' => e = .returned (.int .i64 (Lib.index (Lib.bytesOf (up (l.take k))) [13, 10, 13, 10])) ∧ ∃ q, w' = W2.drewN q) := by
    show Calls _ _ _ _ _
    by_cases h0 : 4 ≤ k
    · obtain ⟨bb, oo, rfl, hbb, hcel⟩ := s2.lies (by omega)
      refine (Tryz.bytes_Index_at ⟨bb, oo, none⟩ ⟨W1.heap.size, 0, none⟩ k c 4 4 (up (l.take k)) (up [13, 10, 13, 10]) m W2 (by rw [up_length]; exact s2.hlen) rfl (up_range hbl) (up_range (by decide)) (fun i hi => by rw [add_none, up_getD]; exact hcel i hi) (fun i hi => by
        rw [add_none]
        rcases (show i = 0 ∨ i = 1 ∨ i = 2 ∨ i = 3 by omega) with rfl | rfl | rfl | rfl <;> (simp [World.cell?, p2]; rfl)) (by omega) (by omega) (by omega) hmv)
    · refine (Tryz.bytes_Index_longer a (some ⟨W1.heap.size, 0, none⟩) k c 4 4 W2 (by omega) (by omega) (by omega)).mono ?_
      rintro e w' ⟨rfl, rfl⟩
      refine ⟨?_, 0, rfl⟩
      have : Lib.index (Lib.bytesOf (up (l.take k))) [13, 10, 13, 10] = -1 := by
        rcases idx4 (Lib.bytesOf (up (l.take k))) with ⟨h1, _⟩ | ⟨j, h1, h2, _⟩
        · exact h1
        · exfalso
          have := h2.2.2
          rw [up_bytes _ hbl] at this
          have := (List.getElem?_eq_some_iff.1 this).1
          rw [s2.hlen] at this
          omega
      rw [this]
  have h4 := idx4 (Lib.bytesOf (up (l.take k)))
  rw [up_bytes _ hbl, HK.out] at h4
  rw [HK.out] at HPX HIX
  have hlt8 : (l.take 8192).length ≤ 8192 := by rw [List.length_take]; omega
  clear s1 p1 p2 s2 b1 b2 hmv hW1 hW2 hbl hk h hV hcc1
  by_cases hp0 : pair (l.take 8192) = some 0
  · rw [decide_eq_true hp0] at HPX
    have HR : Hid (enE l = (2, .ok)) := enE_some (en_zero hp0)
    clear hp0 h4 hlt8 hcv2
    go_enter Tryz.func28, Tryz.ntmps28
    go_wp2_with fail
    refine HPX.out.mono ?_
    rintro e w3 ⟨rfl, hw3⟩
    rw [hw3]
    clear hw3 hcv1
    go_wp2_with fail
    go_ret2
    exact ⟨_, by rw [HR.out]; rfl, by rw [HR.out]; rfl, B1.out⟩
  · rw [decide_eq_false hp0] at HPX
    rcases h4 with ⟨h1, h2⟩ | ⟨j, h1, h2, h3⟩
    · rw [h1] at HIX
      have hen := enE_none (no4_en _ _ (Nat.le_refl _) hp0 h2)
      by_cases hn8 : n < 8192
      · have q1 : decide ((n : Int) < 8192) = true := decide_eq_true (by omega)
        have q2 : decide (n < 8192) = true := decide_eq_true (by omega)
        rw [if_pos (by omega), hnl] at hen
        have HR := hide hen
        clear hp0 h1 h2 hlt8 hen
        go_enter Tryz.func28, Tryz.ntmps28
        go_wp2_with fail
        refine HPX.out.mono ?_
        rintro e w3 ⟨rfl, hw3⟩
        rw [hw3]
        clear hw3 hcv1
        go_wp2_with fail
        refine HIX.out.mono ?_
        rintro e w3 ⟨rfl, q, rfl⟩
        clear hcv2
        go_wp2_with fail
        refine (refuseH_er n 6 _).mono ?_
        rintro e w4 ⟨v, rfl, hi, hb⟩
        have HI := hide hi
        have HB := hide ((below_drewN B2.out q).trans (hb.mono (below_drewN B2.out q).size))
        clear hi hb
        go_wp2_with fail
        go_ret2
        exact ⟨_, by rw [HR.out]; rfl, by rw [HR.out]; exact HI.out, HB.out⟩
      · have q1 : decide ((n : Int) < 8192) = false := decide_eq_false (by omega)
        have q2 : decide (n < 8192) = false := decide_eq_false (by omega)
        rw [if_neg (by omega)] at hen
        have HR := hide hen
        clear hp0 h1 h2 hlt8 hen
        go_enter Tryz.func28, Tryz.ntmps28
        go_wp2_with fail
        refine HPX.out.mono ?_
        rintro e w3 ⟨rfl, hw3⟩
        rw [hw3]
        clear hw3 hcv1
        go_wp2_with fail
        refine HIX.out.mono ?_
        rintro e w3 ⟨rfl, q, rfl⟩
        clear hcv2
        go_wp2_with fail
        refine (refuseH_er 8192 3 _).mono ?_
        rintro e w4 ⟨v, rfl, hi, hb⟩
        have HI := hide hi
        have HB := hide ((below_drewN B2.out q).trans (hb.mono (below_drewN B2.out q).size))
        clear hi hb
        go_wp2_with fail
        go_ret2
        exact ⟨_, by rw [HR.out]; rfl, by rw [HR.out]; exact HI.out, HB.out⟩
    · have HR : Hid (enE l = (j + 4, .ok)) := enE_some (at4_en _ _ j (Nat.le_refl _) hp0 h2 h3)
      have hj : j + 3 < 8192 := by
        have := (List.getElem?_eq_some_iff.1 h2.2.2).1
        omega
      rw [h1] at HIX
      have dj : decide ((0 : Int) ≤ (j : Int)) = true := decide_eq_true (by omega)
      clear hp0 h1 h2 h3 hlt8
      go_enter Tryz.func28, Tryz.ntmps28
      go_wp2_with fail
      refine HPX.out.mono ?_
      rintro e w3 ⟨rfl, hw3⟩
      rw [hw3]
      clear hw3 hcv1
      go_wp2_with fail
      refine HIX.out.mono ?_
      rintro e w3 ⟨rfl, q, rfl⟩
      clear hcv2
      go_wp2_with fail
      go_ret2
      exact ⟨_, by rw [HR.out]; rfl, by rw [HR.out]; rfl, below_drewN B2.out q⟩
end Go.Proofs.YtccoddmdlbdfjaaGreatDoor
