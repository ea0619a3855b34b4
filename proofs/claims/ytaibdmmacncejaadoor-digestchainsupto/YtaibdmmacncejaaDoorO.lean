/-
  Slices of bytes that a call appends to, and the reference's digits, text and reading of a text; conditions as each theorem has them.
-/
import Derived.Test.YtaibdmmacncejaaDoorN
set_option linter.unusedSimpArgs false
set_option linter.unusedVariables false
namespace Go.Proofs.YtaibdmmacncejaaDoor
open Go.RowKit

/-- v is the call's own slice of the bytes l, in a block from B on. -/
def Own (w : World) (B : Nat) (v : Value) (l : List Nat) : Prop := w.ownsRow B 5 1 v l.length (nums .u8 l)
theorem own_src {w : World} {B : Nat} {v : Value} {l : List Nat} (h : Own w B v l) (hb : ∀ x ∈ l, x < 256) : ∃ a cap, v = .slice a l.length cap ∧ Src w a l.length cap l ∧ (∀ b o, a = some ⟨b, o, none⟩ → B ≤ b) := by
  rcases h.2 with ⟨rfl, h0⟩ | ⟨g, cap, cur, rfl, hg, hh, hc, hm, hs, ht⟩
  · obtain rfl : l = [] := List.eq_nil_of_length_eq_zero h0
    exact ⟨none, 0, rfl, ⟨rfl, Nat.le_refl _, Nat.zero_le _, fun _ => rfl, fun h => (by simp at h), by simp⟩, fun b o e => by cases e⟩
  · refine ⟨some ⟨g, 0, none⟩, cap, rfl, ⟨rfl, hc, hm, fun e => (by cases e), fun _ => ⟨g, 0, rfl, lt_of_some hh, fun i hi => ?_⟩, hb⟩, fun b o e => by simp at e; omega⟩
    rw [Nat.mul_one] at ht
    have e1 : cur[i]? = (nums .u8 l)[i]? := by rw [← ht, List.getElem?_take, if_pos hi]; simp
    rw [Nat.zero_add]
    simp only [World.cell?, hh]
    rw [e1]
    exact nums_get .u8 l i hi
/-- 'append(v, x...)', v the call's own: the bytes are behind those that are there; nothing below B has turned. -/
theorem run_app {w : World} {B : Nat} {v : Value} {l : List Nat} (ty : TypeId) (hown : Own w B v l) {a : Option Addr} {m c : Nat} {bs : List Nat} (hs : Src w a m c bs) (hlen : l.length + m ≤ 140737488355328) (hB : B ≤ w.heap.size) :
    ∃ v' w', (Builtin.append_ #[28, 28] ty #[v, .slice a m c]).run Tryd.prog w = .ok v' w' ∧ Own w' B v' (l ++ bs) ∧ Below B w w' := by
  obtain ⟨i, hi, hz, hsz, hby⟩ := info5p
  have hrow : ∀ k, v.ownBlock = some k → B ≤ k := by
    intro k hk
    rcases hown.2 with ⟨rfl, _⟩ | ⟨g, cap, cur, rfl, hg, _⟩
    · cases hk
    · simp [Value.ownBlock] at hk; omega
  cases a with
  | none =>
    have hc := hs.nil rfl
    have := hs.hcap
    obtain rfl : m = 0 := by omega
    obtain rfl : c = 0 := hc
    obtain rfl : bs = [] := List.eq_nil_of_length_eq_zero hs.hlen
    exact ⟨v, w, run_append_owned_none (P := Tryd.prog) w B 28 ty 5 i 1 Tryd.underlying28 hi v l.length (nums .u8 l) hown, by simpa [Own] using hown, Below.refl _ _⟩
  | some x =>
    obtain ⟨v', w', hr, ho, hg, _⟩ := run_append_own (P := Tryd.prog) w B 28 ty 5 i (.int .u8 0) 1 1 Tryd.underlying28 hi hz hsz hby rfl (by omega) v l.length (nums .u8 l) hown x m c (nums .u8 bs) (by rw [nums_length, hs.hlen]; omega)
      (fun j u hu => by
        obtain ⟨hj, rfl⟩ := nums_at _ _ _ _ hu
        rw [hs.hlen] at hj
        obtain ⟨b, o, e, _, hcell⟩ := hs.lies (by omega)
        simp at e
        subst e
        rw [add_none]
        exact hcell j hj) (nums_one _ _) (by unfold maxLen; omega) (by omega) hB
    refine ⟨v', w', hr, ?_, (Below.refl B w).grown hg hB hrow⟩
    unfold Own
    rw [List.length_append, hs.hlen, nums_append]
    exact ho
theorem Own.keep {w w' : World} {B : Nat} {v : Value} {l : List Nat} (h : Own w B v l) (k : ∀ g, B ≤ g → g < w.heap.size → w'.heap[g]? = w.heap[g]?) : Own w' B v l := by
  refine ⟨h.1, ?_⟩
  rcases h.2 with h0 | ⟨x, cap, cur, hv, hx, hh, hrest⟩
  · exact Or.inl h0
  · exact Or.inr ⟨x, cap, cur, hv, hx, (k x hx (lt_of_some hh)).trans hh, hrest⟩
theorem Own.alloc {w : World} {B : Nat} {v : Value} {l : List Nat} (h : Own w B v l) (o : Obj) : Own (w.alloc o) B v l := h.keep fun g _ hg => Below.heap_alloc _ _ _ hg
theorem Own.drewN {w : World} {B : Nat} {v : Value} {l : List Nat} (h : Own w B v l) (n : Nat) : Own (w.drewN n) B v l := h.keep fun _ _ _ => rfl
theorem Own.below {w w' : World} {B : Nat} {v : Value} {l : List Nat} (h : Own w B v l) (k : Below w.heap.size w w') : Own w' B v l := h.keep fun g _ hg => k.block g hg
theorem own_new (w : World) : Own (w.alloc (.cells #[] 5)) w.heap.size (.slice (some ⟨w.heap.size, 0, none⟩) 0 0) [] :=
  ⟨by simp [nums], Or.inr ⟨w.heap.size, 0, #[], rfl, Nat.le_refl _, alloc_new _ _, by simp, Nat.zero_le _, by simp, by simp [nums]⟩⟩
theorem own_new_at (w : World) (g : Nat) (hg : g = w.heap.size) : Own (w.alloc (.cells #[] 5)) g (.slice (some ⟨g, 0, none⟩) 0 0) [] := by subst hg; exact own_new w

/-- What the reference's 'digit' tells. -/
def dg (c : Nat) : Nat := (unhx c).getD 16
theorem unhx_none (c : Nat) (h : ∀ j, j < 16 → hx j ≠ c) : unhx c = none := by
  cases e : unhx c with
  | none => rfl
  | some a => exact absurd (hx_unhx e) (h a (unhx_lt e))

set_option maxHeartbeats 1000000 in
theorem digit_at (c : Nat) (w : World) (hc : c < 256) : Calls Tryd.prog 30 #[.int .u8 c] w fun e w' => e = .returned (.int .u8 (dg c : Nat)) ∧ w' = w := by
  go_enter Tryd.func30, Tryd.ntmps30
  go_wp2_with fail
  go_loop [3] (fun i => ∃ k : Nat, k ≤ 16 ∧ i = .int .i64 k ∧ Hid (∀ j, j < k → hx j ≠ c)) (fun i => 16 - (intOf i).toNat)
  case atStart => exact ⟨0, by omega, rfl, fun j hj => by omega⟩
  case round =>
    obtain ⟨k, hk, rfl, HI⟩ := hrel
    by_cases h1 : k < 16
    · have hix := run_ixhex .i64 k h1
      obtain ⟨y, hy⟩ : ∃ y, y = hx k := ⟨_, rfl⟩
      rw [← hy] at hix
      by_cases h2 : y = c
      · have HC : Hid (unhx c = some k) := by show _ = _; rw [← h2, hy]; exact unhx_hx k h1
        have hb : ((y : Int) == c) = true := by simp; omega
        clear hy h2 HI
        go_wp2_with fail
        go_ret
        refine ⟨?_, rfl⟩
        rw [dg, HC.out]
        rfl
      · have hb : ((y : Int) == c) = false := by simp; omega
        have HY := hide hy
        have H2 := hide h2
        clear hy h2
        go_wp2_with fail
        go_round
        case rel => exact ⟨k + 1, by omega, by go_num, fun j hj => by
          rcases Nat.lt_or_ge j k with h | h
          · exact HI.out j h
          · obtain rfl : j = k := by omega
            rw [← HY.out]; exact H2.out⟩
        case measure => simp [intOf]; omega
    · have HC : Hid (unhx c = none) := unhx_none c fun j hj => HI.out j (by omega)
      go_wp2_with fail
      go_ret
      refine ⟨?_, rfl⟩
      rw [dg, HC.out]
      rfl

set_option maxRecDepth 100000 in
set_option maxHeartbeats 1000000 in
theorem rhex_at (s : List Nat) (w : World) (hs : s.length = 32) (hb : ∀ x ∈ s, x < 256) :
    Calls Tryd.prog 20 #[.agg (nums .u8 s).toArray] w fun e w' => e = .returned (.string (strN (hexOf s))) ∧ Below w.heap.size w w' := by
  obtain ⟨V, hV⟩ : ∃ V, V = (nums .u8 s).toArray := ⟨_, rfl⟩
  rw [← hV]
  have HV := hide hV
  have HS := hide hs
  have HB := hide hb
  clear hV hs hb
  go_enter Tryd.func20, Tryd.ntmps20
  go_wp2_with fail
  go_loopw [3, 4] (fun t i wr => ∃ k : Nat, k ≤ 32 ∧ i = .int .i64 k ∧ Hid (Own wr (w.heap.size + 1) t (hexOf (s.take k)) ∧ Below w.heap.size w wr ∧ Row wr w.heap.size 24 (nums .u8 s) ∧ w.heap.size + 1 ≤ wr.heap.size)) (fun _ i _ => 32 - (intOf i).toNat)
  case atStart =>
    refine ⟨0, by omega, rfl, own_new_at _ _ (by simp), ((Below.refl _ _).alloc (Nat.le_refl _) _).alloc (by simp) _, ?_, by simp⟩
    have := Row.new w V 24
    rw [HV.out] at this ⊢
    exact this.alloc _
  case round =>
    obtain ⟨k, hk, rfl, HI⟩ := hrel
    by_cases h1 : k < 32
    · obtain ⟨i1, i2, i3, i4⟩ := HI.out
      have hkI : (k : Int) < 32 := by omega
      have ec : wr.cell? ⟨w.heap.size, k, none⟩ = some (.int .u8 (s.getD k 0 : Nat)) := i3.num0 (by rw [HS.out]; exact h1)
      have hyl := getD_lt HB.out k
      have hl : k < s.length := by rw [HS.out]; exact h1
      have hts : hexOf (s.take (k + 1)) = hexOf (s.take k) ++ [hx (s.getD k 0 / 16), hx (s.getD k 0 % 16)] := by
        rw [List.take_succ_eq_append_getElem hl, hexOf_append, List.getD, List.getElem?_eq_getElem hl]
        rfl
      obtain ⟨y, hy⟩ : ∃ y, y = s.getD k 0 := ⟨_, rfl⟩
      rw [← hy] at ec hyl hts
      obtain ⟨q1, hq1⟩ : ∃ q, q = y / 16 := ⟨_, rfl⟩
      obtain ⟨q2, hq2⟩ : ∃ q, q = y % 16 := ⟨_, rfl⟩
      rw [← hq1, ← hq2] at hts
      have w1 : (y : Int) / 16 = q1 := by omega
      have w2 : bits .and .u8 (y : Int) 15 = q2 := by rw [hq2]; exact and15 y hyl
      have hx1 := run_ixhex .u8 q1 (by omega)
      have hx2 := run_ixhex .u8 q2 (by omega)
      have hq1l : (q1 : Int) < 16 := by omega
      have hq2l : (q2 : Int) < 16 := by omega
      obtain ⟨W1, hW1⟩ : ∃ W1, W1 = (wr.alloc (.cells #[.int .u8 (hx q1 : Nat), .int .u8 (hx q2 : Nat)] 5)).drew := ⟨_, rfl⟩
      have r1 : Row W1 wr.heap.size 5 (nums .u8 [hx q1, hx q2]) := by rw [hW1]; exact Row.new wr #[.int .u8 (hx q1 : Nat), .int .u8 (hx q2 : Nat)] 5
      have o1 : Own W1 (w.heap.size + 1) u3 (hexOf (s.take k)) := by rw [hW1]; exact (i1.alloc _).drewN 1
      have sW1 : wr.heap.size ≤ W1.heap.size := by rw [hW1]; simp
      have hsrc := r1.src (by intro x hx'; simp at hx'; rcases hx' with rfl | rfl <;> exact hx_lt (by omega)) (n := 2) rfl (by unfold maxLen; omega)
      obtain ⟨v', W2, hap, o2, b2⟩ := run_app 28 o1 hsrc (by rw [hexOf_length, List.length_take]; omega) (by omega)
      rw [← hts] at o2
      rw [hW1] at hap
      have b1 : Below w.heap.size w W1 := by rw [hW1]; exact below_drewN (i2.alloc (by omega) _) 1
      have z1 : Row W1 w.heap.size 24 (nums .u8 s) := by rw [hW1]; exact i3.alloc _
      have O2 := hide o2
      have B2 : Hid (Below w.heap.size w W2) := b1.trans (b2.mono (by omega))
      have Z2 : Hid (Row W2 w.heap.size 24 (nums .u8 s)) := z1.below b2 (by omega)
      have ec2 : W2.cell? ⟨w.heap.size, k, none⟩ = some (.int .u8 y) := by rw [hy]; exact Z2.out.num0 (by rw [HS.out]; exact h1)
      have S2 : Hid (w.heap.size + 1 ≤ W2.heap.size) := by show _ ≤ _; have := b2.size; omega
      have HAP := hide hap
      have hne : w.heap.size ≠ wr.heap.size := by omega
      clear hW1 r1 o1 hsrc hap o2 b2 b1 z1 hts hy hq1 hq2 i1 i2 i3 HI hl sW1
      go_wp2_with fail
      go_region_held3 (fun w' => w'.cell? ⟨w.heap.size, k, none⟩ = some (.int .u8 y)) (go_keep) ((refine step_app_run (by rfl) _ _ 28 28 (by rfl) _ _ (by rfl) (by rfl) HAP.out ?_))
      all_goals
        clear hx1 hx2 w1 w2
        go_wp2_with fail
        go_roundw
        case rel => exact ⟨k + 1, by omega, by go_num, O2.out, B2.out, Z2.out, S2.out⟩
        case measure => simp [intOf]; omega
    · obtain ⟨i1, i2, i3, i4⟩ := HI.out
      have hk2 : k = 32 := by omega
      rw [hk2, List.take_of_length_le (by rw [HS.out]; omega)] at i1
      obtain ⟨a, cap, rfl, hsrc, _⟩ := own_src i1 (hexOf_byte s HB.out)
      have hlen : (hexOf s).length = 64 := by rw [hexOf_length, HS.out]
      obtain ⟨b, o, rfl, _, hcell⟩ := hsrc.lies (by omega)
      have hst := run_str wr b o (hexOf s).length cap (hexOf s) rfl hcell
      rw [hlen] at hst ⊢
      have I2 := hide i2
      obtain ⟨S, hS⟩ : ∃ S, S = strN (hexOf s) := ⟨_, rfl⟩
      rw [← hS] at hst
      have HS' := hide hS
      clear i1 i2 i3 HI hk2 hS hsrc hcell hlen
      go_wp2_with fail
      go_ret
      exact ⟨by rw [HS'.out]; rfl, I2.out⟩

set_option maxRecDepth 100000 in
set_option maxHeartbeats 1000000 in
theorem rparse_len (t : ByteArray) (w : World) (h : t.size ≠ 64) (hm : t.size ≤ maxLen) :
    Calls Tryd.prog 18 #[.string t] w fun e w' => e = .returned (.tuple #[.agg z32, .int .i64 2]) ∧ Below w.heap.size w w' := by
  have hz := zero24
  have hd : ((t.size : Int) != 64) = true := by simp; omega
  have hd' : ((t.size : Int) == 64) = false := by simp; omega
  unfold maxLen at hm
  obtain ⟨W1, hW1⟩ : ∃ W1, W1 = ((w.alloc (.cells z32 24)).alloc (.cells z32 24)).setRow (w.heap.size + 1) z32 := ⟨_, rfl⟩
  have hn : ((w.alloc (.cells z32 24)).alloc (.cells z32 24)).heap[w.heap.size + 1]? = some (.cells z32 24) := alloc_new2 _ _ _
  have hr : W1.heap[w.heap.size]? = some (.cells z32 24) := by rw [hW1, setRow_other _ _ _ _ (by omega)]; exact alloc_old _ (alloc_new _ _)
  have hr2 : W1.heap[w.heap.size + 1]? = some (.cells z32 24) := by rw [hW1]; exact setRow_heap _ _ _ _ _ _ hn
  obtain ⟨W2, hW2⟩ : ∃ W2, W2 = W1.setRow w.heap.size z32 := ⟨_, rfl⟩
  have hrow : W2.heap[w.heap.size]? = some (.cells z32 24) := by rw [hW2]; exact setRow_heap _ _ _ _ _ _ hr
  have hbel : Below w.heap.size w W2 := by rw [hW2, hW1]; exact (((((Kept.refl w.heap.size (w.heap.size + 1) w).alloc _).alloc _).setRow (Or.inr rfl) _).setRow (Or.inl rfl) _).below (Nat.le_refl _) (by omega) (Nat.le_refl _)
  have HR := hide hr
  have HR2 := hide hr2
  have HN := hide hn
  have HW1 := hide hW1
  have HW2 := hide hW2
  have HROW := hide hrow
  have HBEL := hide hbel
  clear hr hr2 hn hW2 hrow hbel hW1
  go_enter Tryd.func18, Tryd.ntmps18
  go_wp2_with (first
    | (refine wpList_built rfl 24 _ rfl z32 ?_ ?_; (simp [Act.eval]; exact built24))
    | (refine wpList_store_rowW rfl 24 _ _ rfl (w.heap.size + 1) z32 rfl rfl 24 z32 HN.out info24 rfl z32_one W1 HW1.out ?_)
    | (refine wpList_load_row rfl 24 _ rfl (w.heap.size + 1) rfl 24 z32 _ _ HR2.out Tryd.underlying24 rfl info24 ?_)
    | (refine wpList_store_rowW rfl 24 _ _ rfl w.heap.size z32 rfl rfl 24 z32 HR.out info24 rfl z32_one W2 HW2.out ?_))
  refine bodyPost_ret (res_cell_tmp rfl _ _ w.heap.size 24 z32 (0, 0) _ rfl HROW.out Tryd.underlying24 rfl info24) rfl ⟨rfl, HBEL.out⟩

theorem digit_some {y a : Nat} (h : unhx y = some a) (hy : y < 256) (w : World) : Calls Tryd.prog 30 #[.int .u8 y] w fun e w' => e = .returned (.int .u8 (a : Nat)) ∧ w' = w := by
  have := digit_at y w hy
  rw [dg, h] at this
  exact this
theorem digit_none {y : Nat} (h : unhx y = none) (hy : y < 256) (w : World) : Calls Tryd.prog 30 #[.int .u8 y] w fun e w' => e = .returned (.int .u8 (16 : Nat)) ∧ w' = w := by
  have := digit_at y w hy
  rw [dg, h] at this
  exact this

set_option maxRecDepth 100000 in
set_option maxHeartbeats 2000000 in
theorem rparse_64 (t : ByteArray) (w : World) (h : t.size = 64) :
    Calls Tryd.prog 18 #[.string t] w fun e w' => e = .returned (.tuple #[.agg (nums .u8 (pres (byt t)).1).toArray, .int .i64 (pres (byt t)).2]) ∧ Below w.heap.size w w' := by
  have hz := zero24
  have hbl : (byt t).length = 64 := by rw [byt_length, h]
  have hpr : pres (byt t) = match pre (byt t) 32 with | some m => (m, 0) | none => (List.replicate 32 0, 2) := by rw [pres, if_pos hbl]; rfl
  have hlt := byt_lt t
  have HPR := hide hpr
  have HLT := hide hlt
  have hix : ∀ i, i < 64 → ∀ w, (Instr.index 9 (.string t) (.int .i64 (i : Nat))).run Tryd.prog w = .ok (.int .u8 ((byt t).getD i 0 : Nat)) w := fun i hi w => run_ixstr t i (by omega) w
  have HIX := hide hix
  obtain ⟨l, hl⟩ : ∃ l, l = byt t := ⟨_, rfl⟩
  rw [← hl] at HPR HLT HIX
  have HL : Hid (byt t = l) := hl.symm
  have hd : ((t.size : Int) != 64) = false := by simp; omega
  have hd' : ((t.size : Int) == 64) = true := by simp; omega
  have HH := hide h
  obtain ⟨W1, hW1⟩ : ∃ W1, W1 = ((w.alloc (.cells z32 24)).alloc (.cells z32 24)).setRow (w.heap.size + 1) z32 := ⟨_, rfl⟩
  have hn : ((w.alloc (.cells z32 24)).alloc (.cells z32 24)).heap[w.heap.size + 1]? = some (.cells z32 24) := alloc_new2 _ _ _
  have hr : Row W1 w.heap.size 24 z32.toList := by
    show W1.heap[w.heap.size]? = _
    rw [hW1, setRow_other _ _ _ _ (by omega)]; exact alloc_old _ (alloc_new _ _)
  have hr2 : Row W1 (w.heap.size + 1) 24 (nums .u8 ([] ++ List.replicate (32 - 0) 0)) := by rw [hW1]; exact setRow_heap _ _ _ _ _ _ hn
  have hbel : Below w.heap.size w W1 := by rw [hW1]; exact ((((Kept.refl w.heap.size (w.heap.size + 1) w).alloc _).alloc _).setRow (Or.inr rfl) _).below (Nat.le_refl _) (by omega) (Nat.le_refl _)
  have HR := hide hr
  have HR2 := hide hr2
  have HN := hide hn
  have HW1 := hide hW1
  have HBEL1 := hide hbel
  clear hpr hlt hix hl hbl h hr hr2 hn hW1 hbel
  go_enter Tryd.func18, Tryd.ntmps18
  go_wp2_with (first
    | (refine wpList_built rfl 24 _ rfl z32 ?_ ?_; (simp [Act.eval]; exact built24))
    | (refine wpList_store_rowW rfl 24 _ _ rfl (w.heap.size + 1) z32 rfl rfl 24 z32 HN.out info24 rfl z32_one W1 HW1.out ?_))
  clear hz hd hd'
  go_loopw [5] (fun i wr => ∃ k : Nat, k ≤ 32 ∧ i = .int .i64 k ∧ Hid (∃ m, pre l k = some m ∧ Row wr (w.heap.size + 1) 24 (nums .u8 (m ++ List.replicate (32 - k) 0)) ∧ Row wr w.heap.size 24 z32.toList ∧ Below w.heap.size w wr)) (fun i _ => 32 - (intOf i).toNat)
  case atStart => exact ⟨0, by omega, rfl, [], rfl, HR2.out, HR.out, HBEL1.out⟩
  case round =>
    obtain ⟨k, hk, rfl, HI⟩ := hrel
    by_cases h1 : k < 32
    · obtain ⟨m, i0, i1, i2, i3⟩ := HI.out
      have hml := pre_length l k m i0
      obtain ⟨A, hA⟩ : ∃ A, A = 2 * k := ⟨_, rfl⟩
      obtain ⟨B, hB⟩ : ∃ B, B = 2 * k + 1 := ⟨_, rfl⟩
      have a1 : (2 : Int) * k = A := by omega
      have a2 : (A : Int) + 1 = B := by omega
      have a3 : IntKind.i64.wrap (A : Int) = A := wrap_i _ (by omega) (by omega)
      have a4 : IntKind.i64.wrap (B : Int) = B := wrap_i _ (by omega) (by omega)
      have x1 := HIX.out A (by omega)
      have x2 := HIX.out B (by omega)
      obtain ⟨y1, hy1⟩ : ∃ y, y = l.getD A 0 := ⟨_, rfl⟩
      obtain ⟨y2, hy2⟩ : ∃ y, y = l.getD B 0 := ⟨_, rfl⟩
      have l1 : y1 < 256 := by rw [hy1]; exact getD_lt HLT.out A
      have l2 : y2 < 256 := by rw [hy2]; exact getD_lt HLT.out B
      have hpk : pk l k = match unhx y1, unhx y2 with | some a, some b => some (a * 16 + b) | _, _ => none := by rw [pk, hy1, hy2, hA, hB]; rfl
      rw [← hy1] at x1
      rw [← hy2] at x2
      have hA64 : (A : Int) < 64 := by omega
      have hB64 : (B : Int) < 64 := by omega
      have hBA : (A : Int) + 1 ≤ B := by omega
      obtain ⟨d1, d2, v1, v2, hdd⟩ : ∃ d1 d2 : Nat, (∀ w, Calls Tryd.prog 30 #[.int .u8 y1] w fun e w' => e = .returned (.int .u8 (d1 : Nat)) ∧ w' = w) ∧ (∀ w, Calls Tryd.prog 30 #[.int .u8 y2] w fun e w' => e = .returned (.int .u8 (d2 : Nat)) ∧ w' = w) ∧
          ((d1 < 16 ∧ d2 < 16 ∧ pk l k = some (d1 * 16 + d2)) ∨ (pk l k = none ∧ (d1 = 16 ∨ (d1 < 16 ∧ d2 = 16)))) := by
        cases e1 : unhx y1 with
        | none => exact ⟨16, dg y2, fun w => digit_none e1 l1 w, fun w => digit_at y2 w l2, Or.inr ⟨by rw [hpk, e1], Or.inl rfl⟩⟩
        | some a =>
          cases e2 : unhx y2 with
          | none => exact ⟨a, 16, fun w => digit_some e1 l1 w, fun w => digit_none e2 l2 w, Or.inr ⟨by rw [hpk, e1, e2], Or.inr ⟨unhx_lt e1, rfl⟩⟩⟩
          | some b => exact ⟨a, b, fun w => digit_some e1 l1 w, fun w => digit_some e2 l2 w, Or.inl ⟨unhx_lt e1, unhx_lt e2, by rw [hpk, e1, e2]⟩⟩
      have V1 := hide v1
      have V2 := hide v2
      rcases hdd with ⟨la, lb, hpk'⟩ | ⟨hpk', hbad⟩
      · have hpn : pre l (k + 1) = some (m ++ [d1 * 16 + d2]) := by rw [pre, i0, hpk']
        have hor := or_u8 d1 d2 la lb
        obtain ⟨X, hX⟩ : ∃ X, X = d1 * 16 + d2 := ⟨_, rfl⟩
        rw [← hX] at hor hpn
        have ef : wr.frozen? ⟨w.heap.size + 1, k, none⟩ = false := i1.frozen k
        have ec : wr.cell? ⟨w.heap.size + 1, k, none⟩ = some (.int .u8 ((m ++ List.replicate (32 - k) 0).getD k 0 : Nat)) := i1.num0 (by rw [List.length_append, List.length_replicate, hml]; omega)
        obtain ⟨z, hz⟩ : ∃ z, z = (m ++ List.replicate (32 - k) 0).getD k 0 := ⟨_, rfl⟩
        rw [← hz] at ec
        have i4 := i1.setNum0 k X
        rw [List.set_append_right _ _ (by omega), hml, Nat.sub_self, show 32 - k = (32 - (k + 1)) + 1 by omega, List.replicate_succ, List.set_cons_zero] at i4
        have I4 := hide i4
        have HPN := hide hpn
        have I2 := hide i2
        have I3 := hide i3
        have hlaI : (d1 : Int) < 16 := by omega
        have hlbI : (d2 : Int) < 16 := by omega
        have g1 : decide ((15 : Int) < d1) = false := by simp; omega
        have g2 : decide ((15 : Int) < d2) = false := by simp; omega
        clear v1 v2 i4 hpn i0 i1 i2 i3 HI hX hz hy1 hy2 hpk hpk' hA hB hml
        go_wp2_with fail
        go_quiet (first
          | (go_at_call_of 30 (Value.int .u8 (y1 : Int)); refine (V1.out _).mono ?_; rintro e w1 ⟨rfl, rfl⟩; exact ⟨rfl, _, rfl⟩)
          | (go_at_call_of 30 (Value.int .u8 (y2 : Int)); refine (V2.out _).mono ?_; rintro e w1 ⟨rfl, rfl⟩; exact ⟨rfl, _, rfl⟩))
        go_wp2_with fail
        go_roundw
        case rel =>
          have KK : Kept (w.heap.size + 1) (w.heap.size + 1) wr ((wr.drewN nq).setCell ⟨w.heap.size + 1, k, none⟩ (.int .u8 (X : Nat))) := ((Kept.refl _ _ wr).drewN nq).set _ _
          refine ⟨k + 1, by omega, by go_num, m ++ [X], HPN.out, ?_, I2.out.kept KK (by omega) (by omega), I3.out.trans (KK.below (by omega) (by omega) I3.out.size)⟩
          rw [List.append_assoc]
          exact I4.out
        case measure => simp [intOf]; omega
      · have hnn : pre l 32 = none := pre_none l (k + 1) (by rw [pre, i0, hpk']) 32 (by omega)
        have HP2 : Hid (pres (byt t) = (List.replicate 32 0, 2)) := by show _ = _; rw [HL.out, HPR.out, hnn]
        have I2 := hide i2
        have I3 := hide i3
        rcases hbad with rfl | ⟨hd1, rfl⟩
        · have g1 : decide ((15 : Int) < (16 : Nat)) = true := by decide
          clear v1 v2 i0 i1 i2 i3 HI hy1 hy2 hpk hpk' hA hB hml hnn
          go_wp2_with fail
          go_quiet (first
            | (go_at_call_of 30 (Value.int .u8 (y1 : Int)); refine (V1.out _).mono ?_; rintro e w1 ⟨rfl, rfl⟩; exact ⟨rfl, _, rfl⟩)
            | (go_at_call_of 30 (Value.int .u8 (y2 : Int)); refine (V2.out _).mono ?_; rintro e w1 ⟨rfl, rfl⟩; exact ⟨rfl, _, rfl⟩))
          obtain ⟨W2, hW2⟩ : ∃ W2, W2 = (wr.drewN nq).setRow w.heap.size z32 := ⟨_, rfl⟩
          have hrow : W2.heap[w.heap.size]? = some (.cells z32 24) := by rw [hW2]; exact setRow_heap _ _ _ _ _ _ (I2.out.drewN nq)
          have hbel : Below w.heap.size w W2 := by rw [hW2]; exact I3.out.trans ((((Kept.refl w.heap.size w.heap.size wr).drewN nq).setRow (Or.inl rfl) _).below (Nat.le_refl _) (Nat.le_refl _) I3.out.size)
          have HW2 := hide hW2
          have HROW := hide hrow
          have HBEL := hide hbel
          clear hW2 hrow hbel
          go_wp2_with (first
            | (refine wpList_built rfl 24 _ rfl z32 ?_ ?_; (simp [Act.eval]; exact built24))
            | (refine wpList_store_rowW rfl 24 _ _ rfl w.heap.size z32 rfl rfl 24 z32 (I2.out.drewN nq) info24 rfl z32_one W2 HW2.out ?_))
          refine bodyPost_ret (res_cell_tmp rfl _ _ w.heap.size 24 z32 (0, 0) _ rfl HROW.out Tryd.underlying24 rfl info24) rfl ⟨?_, HBEL.out⟩
          rw [HP2.out]
          rfl
        · have g1 : decide ((15 : Int) < d1) = false := by simp; omega
          have hd1I : (d1 : Int) < 16 := by omega
          clear v1 v2 i0 i1 i2 i3 HI hy1 hy2 hpk hpk' hA hB hml hnn
          go_wp2_with fail
          go_quiet (first
            | (go_at_call_of 30 (Value.int .u8 (y1 : Int)); refine (V1.out _).mono ?_; rintro e w1 ⟨rfl, rfl⟩; exact ⟨rfl, _, rfl⟩)
            | (go_at_call_of 30 (Value.int .u8 (y2 : Int)); refine (V2.out _).mono ?_; rintro e w1 ⟨rfl, rfl⟩; exact ⟨rfl, _, rfl⟩))
          obtain ⟨W2, hW2⟩ : ∃ W2, W2 = (wr.drewN nq).setRow w.heap.size z32 := ⟨_, rfl⟩
          have hrow : W2.heap[w.heap.size]? = some (.cells z32 24) := by rw [hW2]; exact setRow_heap _ _ _ _ _ _ (I2.out.drewN nq)
          have hbel : Below w.heap.size w W2 := by rw [hW2]; exact I3.out.trans ((((Kept.refl w.heap.size w.heap.size wr).drewN nq).setRow (Or.inl rfl) _).below (Nat.le_refl _) (Nat.le_refl _) I3.out.size)
          have HW2 := hide hW2
          have HROW := hide hrow
          have HBEL := hide hbel
          clear hW2 hrow hbel
          go_wp2_with (first
            | (refine wpList_built rfl 24 _ rfl z32 ?_ ?_; (simp [Act.eval]; exact built24))
            | (refine wpList_store_rowW rfl 24 _ _ rfl w.heap.size z32 rfl rfl 24 z32 (I2.out.drewN nq) info24 rfl z32_one W2 HW2.out ?_))
          refine bodyPost_ret (res_cell_tmp rfl _ _ w.heap.size 24 z32 (0, 0) _ rfl HROW.out Tryd.underlying24 rfl info24) rfl ⟨?_, HBEL.out⟩
          rw [HP2.out]
          rfl
    · obtain ⟨m, i0, i1, i2, i3⟩ := HI.out
      have hk2 : k = 32 := by omega
      rw [hk2] at i0 i1
      rw [show (32 : Nat) - 32 = 0 from rfl, List.replicate_zero, List.append_nil] at i1
      have hml := pre_length l 32 m i0
      have HP2 : Hid (pres (byt t) = (m, 0)) := by show _ = _; rw [HL.out, HPR.out, i0]
      obtain ⟨V, hV⟩ : ∃ V, V = (nums .u8 m).toArray := ⟨_, rfl⟩
      have hsV : V.size = 32 := by rw [hV]; simp [nums, hml]
      have hall : V.all (·.oneCell') = true := by rw [hV]; exact nums_all _ _
      have hg : wr.heap[w.heap.size + 1]? = some (.cells V 24) := by rw [hV]; exact i1
      obtain ⟨W2, hW2⟩ : ∃ W2, W2 = wr.setRow w.heap.size V := ⟨_, rfl⟩
      have hrow : W2.heap[w.heap.size]? = some (.cells V 24) := by rw [hW2]; exact setRow_heap _ _ _ _ _ _ i2
      have hbel : Below w.heap.size w W2 := by rw [hW2]; exact i3.trans (((Kept.refl w.heap.size w.heap.size wr).setRow (Or.inl rfl) _).below (Nat.le_refl _) (Nat.le_refl _) i3.size)
      have HV := hide hV
      have HSV := hide hsV
      have HALL := hide hall
      have HG := hide hg
      have HW2 := hide hW2
      have HROW := hide hrow
      have HBEL := hide hbel
      have I2 := hide i2
      clear hV hsV hall hg hW2 hrow hbel i0 i1 i2 i3 HI hml hk2
      go_wp2_with (first
        | (refine wpList_load_row rfl 24 _ rfl (w.heap.size + 1) rfl 24 V _ _ HG.out Tryd.underlying24 rfl ?_ ?_; (rw [HSV.out]; exact info24))
        | (refine wpList_store_rowW rfl 24 _ _ rfl w.heap.size V rfl rfl 24 z32 I2.out ?_ ?_ HALL.out W2 HW2.out ?_; (rw [HSV.out]; exact info24); (rw [HSV.out]; rfl)))
      refine bodyPost_ret (res_cell_tmp rfl _ _ w.heap.size 24 V (0, 0) _ rfl HROW.out Tryd.underlying24 rfl (by rw [HSV.out]; exact info24)) rfl ⟨?_, HBEL.out⟩
      rw [HP2.out, HV.out]
      rfl

theorem rparse_at (t : ByteArray) (w : World) (hm : t.size ≤ maxLen) :
    Calls Tryd.prog 18 #[.string t] w fun e w' => e = .returned (.tuple #[.agg (nums .u8 (pres (byt t)).1).toArray, .int .i64 (pres (byt t)).2]) ∧ Below w.heap.size w w' := by
  by_cases h : t.size = 64
  · exact rparse_64 t w h
  · have e : pres (byt t) = (List.replicate 32 0, 2) := by rw [pres, if_neg (by rw [byt_length]; exact h)]
    rw [e]
    exact rparse_len t w h hm
end Go.Proofs.YtaibdmmacncejaaDoor
