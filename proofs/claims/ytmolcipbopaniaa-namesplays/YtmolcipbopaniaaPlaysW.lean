/-
  A table answers whatever calls as the reference does, and so does a clone: what the statement does; conditions as each theorem has them.
-/
import Derived.Test.YtmolcipbopaniaaP
import Derived.Test.YtmolcipbopaniaaT
set_option linter.unusedSimpArgs false
set_option linter.unusedVariables false
namespace Go.Proofs.Ytmolcipbopaniaa
open Go.RowKit
/-- Bytes of addresses in a block of their own. -/
def Nums (w : World) (b n : Nat) : Prop := ∃ cur, w.heap[b]? = some (.cells cur 37) ∧ ∀ j, j < 4 * n → ∃ y, cur[j]? = some (.int .u8 y)
theorem Nums.cell {w : World} {b n : Nat} (h : Nums w b n) {j : Nat} (hj : j < 4 * n) : (∃ y, w.cell? ⟨b, j, none⟩ = some (.int .u8 y)) ∧ w.frozen? ⟨b, j, none⟩ = false := by
  obtain ⟨cur, h1, h2⟩ := h
  obtain ⟨y, hy⟩ := h2 j hj
  exact ⟨⟨y, by simp [World.cell?, h1, hy]⟩, by simp [World.frozen?, h1]⟩
theorem Nums.set {w : World} {b n : Nat} (h : Nums w b n) (j : Nat) (z : Int) : Nums (w.setCell ⟨b, j, none⟩ (.int .u8 z)) b n := by
  obtain ⟨cur, h1, h2⟩ := h
  refine ⟨_, heap_setCell_same h1 j _, fun k hk => ?_⟩
  obtain ⟨y, hy⟩ := h2 k hk
  rw [Array.getElem?_setIfInBounds]
  by_cases e : j = k
  · subst e
    have hlt := (Array.getElem?_eq_some_iff.1 hy).1
    rw [if_pos rfl, if_pos hlt]
    exact ⟨z, rfl⟩
  · rw [if_neg e]; exact ⟨y, hy⟩
theorem Nums.keep {w w' : World} {b n : Nat} (h : Nums w b n) (k : w'.heap[b]? = w.heap[b]?) : Nums w' b n := by
  obtain ⟨cur, h1, h2⟩ := h
  exact ⟨cur, k.trans h1, h2⟩
theorem adCs_num (l : List Ad) {j : Nat} (h : j < (adCs l).length) : ∃ y, (adCs l)[j]? = some (.int .u8 y) := by
  have hl := adCs_len l
  obtain ⟨i, hi⟩ : ∃ i, j = 4 * i ∨ j = 4 * i + 1 ∨ j = 4 * i + 2 ∨ j = 4 * i + 3 := ⟨j / 4, by omega⟩
  obtain ⟨q1, q2, q3, q4⟩ := adCs_get l i (by omega)
  rcases hi with hi | hi | hi | hi <;> rw [hi]
  · exact ⟨_, q1⟩
  · exact ⟨_, q2⟩
  · exact ⟨_, q3⟩
  · exact ⟨_, q4⟩
/-- The call's own addresses: nothing, or in a block of their own. -/
theorem OwnA.nums {w : World} {B : Nat} {v : Value} {l : List Ad} (h : OwnA w B v l) : (v = .slice none 0 0 ∧ l = []) ∨ ∃ b c, v = .slice (some ⟨b, 0, none⟩) l.length c ∧ l.length ≤ c ∧ c ≤ maxLen ∧ B ≤ b ∧ b < w.heap.size ∧ Nums w b l.length := by
  rcases h.2 with ⟨rfl, h0⟩ | ⟨g, cap, cur, rfl, hx, hh, hc, hm, hs, ht⟩
  · exact Or.inl ⟨rfl, List.length_eq_zero_iff.1 h0⟩
  · refine Or.inr ⟨g, cap, rfl, hc, hm, hx, lt_of_some hh, cur, hh, fun j hj => ?_⟩
    obtain ⟨y, hy⟩ := adCs_num l (j := j) (by rw [adCs_len]; omega)
    refine ⟨y, ?_⟩
    rw [← ht, List.getElem?_take] at hy
    split at hy
    · simpa using hy
    · cases hy
theorem OwnA.blk {w : World} {B : Nat} {v : Value} {l : List Ad} (h : OwnA w B v l) (hb : okA l) : ∃ a c lb, v = .slice a l.length c ∧ (0 < l.length → a = some ⟨lb, 0, none⟩ ∧ Nums w lb l.length ∧ lb < w.heap.size) ∧ (lb = B ∨ lb < w.heap.size) ∧ B ≤ lb ∧ c ≤ maxLen ∧ l.length ≤ c ∧ SrcA w a l.length c l := by
  obtain ⟨a, c, e, hs, _⟩ := h.src hb
  rcases h.nums with ⟨rfl, rfl⟩ | ⟨b, c', e', h1, h2, h3, h4, h5⟩
  · simp only [Value.slice.injEq] at e
    obtain ⟨rfl, _, rfl⟩ := e
    exact ⟨none, 0, B, rfl, fun h0 => by simp at h0, Or.inl rfl, Nat.le_refl _, Nat.zero_le _, Nat.le_refl _, hs⟩
  · rw [e'] at e
    simp only [Value.slice.injEq, true_and] at e
    obtain ⟨rfl, rfl⟩ := e
    exact ⟨_, c', b, e', fun _ => ⟨rfl, h5, h4⟩, Or.inr h4, h3, h2, h1, hs⟩
theorem getA_ok {L : List Sl} (h : okL L) (now : Int) (name : ByteArray) : okA (getA L now name) := by
  unfold getA
  cases e : got L now name with
  | none => intro a ha; cases ha
  | some s => exact (h _ _ (got_spec e).2.1).byte
theorem getA_few {L : List Sl} (h : okL L) (now : Int) (name : ByteArray) : (getA L now name).length ≤ 16 := by
  unfold getA
  cases e : got L now name with
  | none => exact Nat.zero_le _
  | some s => exact (h _ _ (got_spec e).2.1).few
/-- Where a round stands: the table and the reference's. -/
structure Both (w wr : World) (r g r2 g2 : Nat) (L : List Sl) : Prop where
  tab : IsTab wr r g L
  ref : RT wr.heap.size wr r2 g2 L
  uniq : Uniq L
  bel : Below w.heap.size w wr
  r_ : w.heap.size ≤ r
  g_ : w.heap.size ≤ g
  r2_ : w.heap.size ≤ r2
  g2_ : w.heap.size ≤ g2
abbrev boxA (X : Ac) : Obj := .cells #[.int .i64 X.k, .int .i64 X.now, .int .i64 X.ttl, .string X.name, .slice X.a X.n X.c] 32
/-- Within a round: the call that is played lies in block bx. -/
structure St (w wx : World) (r g r2 g2 x bx : Nat) (LT LR : List Sl) (X : Ac) : Prop where
  tab : IsTab wx r g LT
  ref : RT x wx r2 g2 LR
  bel : Below w.heap.size w wx
  box : wx.heap[bx]? = some (boxA X)
  src : SrcA wx X.a X.n X.c X.ads
  old : ∀ b o, 0 < X.n → X.a = some ⟨b, o, none⟩ → b < w.heap.size
theorem St.below {w wx wy : World} {r g r2 g2 x bx : Nat} {LT LR : List Sl} {X : Ac} (h : St w wx r g r2 g2 x bx LT LR X) (k : Below wx.heap.size wx wy) : St w wy r g r2 g2 x bx LT LR X :=
  ⟨h.tab.belowS k, h.ref.below k, h.bel.trans (k.mono h.bel.size), (k.block _ (lt_of_some h.box)).trans h.box, h.src.below k, h.old⟩
theorem St.cells {w wx : World} {r g r2 g2 x bx : Nat} {LT LR : List Sl} {X : Ac} (h : St w wx r g r2 g2 x bx LT LR X) : wx.cell? ⟨bx, 1, none⟩ = some (.int .i64 X.now) ∧ wx.cell? ⟨bx, 2, none⟩ = some (.int .i64 X.ttl) ∧ wx.cell? ⟨bx, 3, none⟩ = some (.string X.name) ∧ wx.cell? ⟨bx, 4, none⟩ = some (.slice X.a X.n X.c) ∧ bx < wx.heap.size := by
  have := h.box
  exact ⟨by simp [World.cell?, this], by simp [World.cell?, this], by simp [World.cell?, this], by simp [World.cell?, this], lt_of_some this⟩
theorem types_ne {w : World} {a b : Nat} {c d : Array Value} {s t : TypeId} (h1 : w.heap[a]? = some (.cells c s)) (h2 : w.heap[b]? = some (.cells d t)) (h : s ≠ t) : a ≠ b := by
  intro e; subst e
  rw [h1] at h2
  simp at h2
  exact h h2.2
theorem RT.row {x : Nat} {w : World} {r g : Nat} {L : List Sl} (h : RT x w r g L) : ∃ cs, w.heap[g]? = some (.cells cs 71) := by
  obtain ⟨V, hg, _⟩ := h.body
  exact ⟨_, hg⟩
/-- The table's own slots were written. -/
theorem St.tabKept {w wx wy : World} {r g r2 g2 x bx : Nat} {LT LT2 LR : List Sl} {X : Ac} (h : St w wx r g r2 g2 x bx LT LR X) (hg : w.heap.size ≤ g) (k : Kept g g wx wy) (hT : IsTab wy r g LT2) : St w wy r g r2 g2 x bx LT2 LR X := by
  have hrow : wx.heap[g]? = some (.cells (flat LT).toArray 64) := h.tab.row
  obtain ⟨cs, hcs⟩ := h.ref.row
  have n1 : g ≠ r2 := types_ne hrow h.ref.head (by decide)
  have n2 : g ≠ g2 := types_ne hrow hcs (by decide)
  have n3 : g ≠ bx := types_ne hrow h.box (by decide)
  exact ⟨hT, h.ref.kept (Or.inr ⟨_, 64, hrow, by decide⟩) n1 n2 k, h.bel.trans (k.below hg hg h.bel.size), (k.block bx (lt_of_some h.box) n3.symm n3.symm).trans h.box, h.src.keep (fun h0 b o e => k.block b (h.src.lt h0 e) (by have := h.old b o h0 e; omega) (by have := h.old b o h0 e; omega)) k.size, h.old⟩
/-- The reference's entries were written. -/
theorem St.refKept {w wx wy : World} {r g r2 g2 x bx : Nat} {LT LR LR2 : List Sl} {X : Ac} (h : St w wx r g r2 g2 x bx LT LR X) (hg : w.heap.size ≤ g2) (k : Kept g2 g2 wx wy) (hR : RT x wy r2 g2 LR2) : St w wy r g r2 g2 x bx LT LR2 X := by
  have hrow : wx.heap[g]? = some (.cells (flat LT).toArray 64) := h.tab.row
  have hhd : wx.heap[r]? = some (thd LT.length g) := h.tab.head
  unfold thd at hhd
  obtain ⟨cs, hcs⟩ := h.ref.row
  have n1 : g2 ≠ r := types_ne hcs hhd (by decide)
  have n2 : g2 ≠ g := types_ne hcs hrow (by decide)
  have n3 : g2 ≠ bx := types_ne hcs h.box (by decide)
  exact ⟨h.tab.keep (k.block r h.tab.lt.1 n1.symm n1.symm) (k.block g h.tab.lt.2 n2.symm n2.symm), hR, h.bel.trans (k.below hg hg h.bel.size), (k.block bx (lt_of_some h.box) n3.symm n3.symm).trans h.box, h.src.keep (fun h0 b o e => k.block b (h.src.lt h0 e) (by have := h.old b o h0 e; omega) (by have := h.old b o h0 e; omega)) k.size, h.old⟩
/-- Addresses of the round's own were written. -/
theorem St.ownKept {w wx wy : World} {r g r2 g2 x bx : Nat} {LT LR : List Sl} {X : Ac} (h : St w wx r g r2 g2 x bx LT LR X) (hx : w.heap.size ≤ x) (n1 : x ≠ r) (n2 : x ≠ g) (n3 : x ≠ r2) (n4 : x ≠ g2) (n5 : x ≠ bx) (k : Kept x x wx wy) : St w wy r g r2 g2 x bx LT LR X :=
  ⟨h.tab.keep (k.block r h.tab.lt.1 n1.symm n1.symm) (k.block g h.tab.lt.2 n2.symm n2.symm), h.ref.kept (Or.inl rfl) n3 n4 k, h.bel.trans (k.below hx hx h.bel.size), (k.block bx (lt_of_some h.box) n5.symm n5.symm).trans h.box, h.src.keep (fun h0 b o e => k.block b (h.src.lt h0 e) (by have := h.old b o h0 e; omega) (by have := h.old b o h0 e; omega)) k.size, h.old⟩
set_option maxRecDepth 100000 in
set_option maxHeartbeats 8000000 in
theorem plays_walk (s : Int) (a : Option Addr) (len cap : Nat) (f : Nat → Ac) (w : World) (hA : IsActs w a len cap f) : Calls Try.prog 3 #[.int .i64 s, .slice a len cap] w fun e w' => e = .returned (.bool true) ∧ Below w.heap.size w w' := by
  obtain ⟨hlc, hcm, hI⟩ := hA
  have HA := hide hI
  clear hI
  by_cases hs : s < 0 ∨ 4096 < s
  · have HN := fun w' => hide (new_bad s w' hs)
    have HR := fun w' => hide (rnew_bad s w' hs)
    clear hs
    go_enter Try.func3, Try.ntmps3
    go_wp2_with fail
    refine (HN _).out.mono ?_
    rintro e w1 ⟨rfl, rfl⟩
    go_wp2_with fail
    refine (HR _).out.mono ?_
    rintro e w1 ⟨rfl, rfl⟩
    go_wp2_with fail
    go_ret
    exact ⟨rfl, Below.refl _ _⟩
  · obtain ⟨N, hN, rfl⟩ : ∃ N : Nat, N ≤ 4096 ∧ s = N := ⟨s.toNat, by omega, by omega⟩
    clear hs
    go_enter Try.func3, Try.ntmps3
    go_wp2_with fail
    refine (new_good N w hN).mono ?_
    rintro e w1 ⟨rfl, h1, k1⟩
    have H1 := hide h1
    have K1 := hide k1
    clear h1 k1
    go_wp2_with fail
    refine (rnew_good N 0 w1 hN).mono ?_
    rintro e w2 ⟨rfl, h2, k2⟩
    have HB : Hid (Both w w2 (w.heap.size + 1) w.heap.size (w1.heap.size + 1) w1.heap.size (List.replicate N zeroS)) := ⟨H1.out.belowS k2, h2.new (Nat.le_refl _), new_uniq N, K1.out.trans (k2.mono K1.out.size), by omega, by omega, by have := K1.out.size; omega, K1.out.size⟩
    clear h2 k2 H1 K1
    obtain ⟨r, hr⟩ : ∃ r, r = w.heap.size + 1 := ⟨_, rfl⟩
    obtain ⟨g, hg⟩ : ∃ g, g = w.heap.size := ⟨_, rfl⟩
    rw [← hr, ← hg] at HB
    obtain ⟨r2, hr2⟩ : ∃ r2, r2 = w1.heap.size + 1 := ⟨_, rfl⟩
    obtain ⟨g2, hg2⟩ : ∃ g2, g2 = w1.heap.size := ⟨_, rfl⟩
    rw [← hr2, ← hg2] at HB
    rw [← hr, ← hr2]
    have HB' : Hid (Both w w2 r g r2 g2 (List.replicate N zeroS)) := by rw [hg]; rw [hg] at HB; exact HB
    clear HB hr hg hr2 hg2
    go_wp2_with fail
    go_loopw [5, 9] (fun t v wr => ∃ (i r g : Nat) (L : List Sl), i ≤ len ∧ v = .int .i64 i ∧ t = .pointer (some ⟨r, 0, none⟩) ∧ Hid (Both w wr r g r2 g2 L)) (fun _ v _ => len - (intOf v).toNat)
    case atStart => exact ⟨0, r, g, _, Nat.zero_le _, rfl, rfl, HB'⟩
    case round =>
      clear HB'
      obtain ⟨i, r, g, L, hi, rfl, rfl, HB⟩ := hrel
      by_cases hil : i < len
      · have hd : decide ((i : Int) < (len : Int)) = true := decide_eq_true (by omega)
        have hold := (HA.out (by omega))
        obtain ⟨b, o, rfl, hb, hxs⟩ := hold
        have hX := (hxs i hil)
        have hX2 := hX.below HB.out.bel hb
        obtain ⟨X, hXX⟩ : ∃ X, X = f i := ⟨_, rfl⟩
        rw [← hXX] at hX hX2
        have hS0 : St w (wr.alloc (boxA X)) r g r2 g2 wr.heap.size wr.heap.size L L X := by
          have k := (Below.refl wr.heap.size wr).alloc (Nat.le_refl _) (boxA X)
          exact ⟨HB.out.tab.belowS k, HB.out.ref.below k, HB.out.bel.trans (k.mono HB.out.bel.size), alloc_new _ _, hX2.src.below k, fun b o h0 e => hX.src.lt h0 e⟩
        have HS0 := hide hS0
        have HIN : Hid ((-9223372036854775808 ≤ X.now ∧ X.now ≤ 9223372036854775807) ∧ X.n * 4 ≤ 140737488351232) := ⟨hX.inN, hX.len⟩
        obtain ⟨e0, e1, e2, e3, e4, _, _, _, _⟩ := hX2
        clear hS0 hX hxs hXX
        have hAm := fun w' => among X.k 4 (by omega) (by omega) w'
        have HAm := hide hAm
        clear hAm
        go_wp2_with fail
        refine (HAm.out _).mono ?_
        rintro e w3 ⟨kk, hkk, rfl, rfl⟩
        clear e0 e1 e2 e3 e4
        have key : kk = 2 ∨ kk = 3 ∨ kk = 0 ∨ kk = 1 := by omega
        clear hkk
        rcases key with rfl | rfl | rfl | rfl
        · as_aux_lemma =>
            go_wp2_with fail
            obtain ⟨wt, hwt⟩ : ∃ wt, wt = wr.alloc (boxA X) := ⟨_, rfl⟩
            have HT := HS0
            rw [← hwt] at HT
            unfold boxA at hwt
            rw [← hwt]
            have HU : Hid (Uniq L) := HB.out.uniq
            have LOW : Hid (w.heap.size ≤ r ∧ w.heap.size ≤ g ∧ w.heap.size ≤ r2 ∧ w.heap.size ≤ g2) := ⟨HB.out.r_, HB.out.g_, HB.out.r2_, HB.out.g2_⟩
            obtain ⟨bx, hbx⟩ : ∃ bx, bx = wr.heap.size := ⟨_, rfl⟩
            rw [← hbx] at HT ⊢
            clear hwt hbx HB HS0 HAm
            -- the tail
            have HG := hide (get_at r g L X.now X.name wt HT.out.tab)
            have hGok := hide (getA_ok HT.out.tab.ok X.now X.name)
            have hGfew := getA_few HT.out.tab.ok X.now X.name
            have HG2 : Hid (∀ x w', RT x w' r2 g2 L → Calls Try.prog 17 #[.pointer (some ⟨r2, 0, none⟩), .int .i64 X.now, .string X.name] w' fun e w'' => ∃ v, e = .returned (.tuple #[v, .int .i64 (getT L X.now X.name), .int .i64 (getC L X.now X.name)]) ∧ OwnA w'' w'.heap.size v (getA L X.now X.name) ∧ Below w'.heap.size w' w'') := fun x w' h => rget_at x r2 g2 L X.now X.name w' h HU.out
            generalize getA L X.now X.name = GA at HG HG2 hGok hGfew
            generalize getT L X.now X.name = GT at HG HG2
            generalize getC L X.now X.name = GC at HG HG2
            refine HG.out.mono ?_
            rintro e w4 ⟨v, rfl, ho, k4⟩
            obtain ⟨la, lc, lb, rfl, hnum, _, hlb, hlm, hlc2, hls⟩ := ho.blk hGok.out
            have HT4 : Hid (St w w4 r g r2 g2 lb bx L L X) := (⟨HT.out.tab, HT.out.ref.new hlb, HT.out.bel, HT.out.box, HT.out.src, HT.out.old⟩ : St w wt r g r2 g2 lb bx L L X).below k4
            have HLB : Hid (w.heap.size ≤ lb ∧ lb ≠ r ∧ lb ≠ g ∧ lb ≠ r2 ∧ lb ≠ g2) := by
              have h1 := HT.out.bel.size
              have h2 := HT.out.tab.lt
              have h3 := HT.out.ref.lt
              exact ⟨by omega, by omega, by omega, by omega, by omega⟩
            have HNU := hide hnum
            have HLS := hide hls
            obtain ⟨n4, hn4⟩ : ∃ n4, n4 = GA.length := ⟨_, rfl⟩
            rw [← hn4] at HNU HLS hGfew hlc2 ⊢
            obtain ⟨b1, b2, b3, b4, b5⟩ := HT4.out.cells
            unfold maxLen at hlm
            have HN4 := hide hn4
            clear ho k4 hnum hlb hls HT HG hn4
            go_wp2_with fail
            refine (HG2.out lb w4 HT4.out.ref).mono ?_
            rintro e w5 ⟨v5, rfl, ho, k5⟩
            obtain ⟨ma, mc, mb, rfl, _, _, _, _, _, hms⟩ := ho.blk hGok.out
            have HT5 := hide (HT4.out.below k5)
            have HLS5 := hide (HLS.out.below k5)
            have HMS5 := hide hms
            have HNU5 : Hid (0 < n4 → la = some ⟨lb, 0, none⟩ ∧ Nums w5 lb n4 ∧ lb < w5.heap.size) := fun h0 => by
              obtain ⟨q1, q2, q3⟩ := HNU.out h0
              exact ⟨q1, q2.keep (k5.block _ q3), by have := k5.size; omega⟩
            obtain ⟨b1, b2, b3, b4, b5⟩ := HT5.out.cells
            rw [← HN4.out] at HMS5 ⊢
            clear ho k5 hms HT4 HLS HNU HG2
            obtain ⟨NL, hNL⟩ : ∃ NL, NL = L.length := ⟨_, rfl⟩
            have C13 : Hid (∀ wy, Below w5.heap.size w5 wy → Calls Try.prog 13 #[.slice la n4 lc, .slice ma n4 mc] wy fun e wz => e = .returned (.bool true) ∧ Below w5.heap.size w5 wz) := fun wy k => by
              refine (same_addrs wy la ma n4 lc n4 mc GA (HLS5.out.below k) (HMS5.out.below k)).mono ?_
              rintro e wz ⟨rfl, kz⟩
              exact ⟨rfl, k.trans (kz.mono k.size)⟩
            have C18 : Hid (∀ wy, Below w5.heap.size w5 wy → Calls Try.prog 18 #[.pointer (some ⟨r, 0, none⟩), .int .i64 X.now] wy fun e wz => e = .returned (.int .i64 (used L X.now : Nat)) ∧ Below w5.heap.size w5 wz) := fun wy k => by
              refine (used_at r g L X.now wy (HT5.out.below k).tab).mono ?_
              rintro e wz ⟨rfl, kz⟩
              exact ⟨rfl, k.trans (kz.mono k.size)⟩
            have C19 : Hid (∀ wy, Below w5.heap.size w5 wy → Calls Try.prog 19 #[.pointer (some ⟨r2, 0, none⟩), .int .i64 X.now] wy fun e wz => e = .returned (.int .i64 (used L X.now : Nat)) ∧ Below w5.heap.size w5 wz) := fun wy k => by
              refine (rused_at r2 g2 L.length L X.now wy (HT5.out.below k).ref.reads).mono ?_
              rintro e wz ⟨rfl, kz⟩
              exact ⟨rfl, k.trans (kz.mono k.size)⟩
            have C21 : Hid (∀ wy, Below w5.heap.size w5 wy → Calls Try.prog 21 #[.pointer (some ⟨r, 0, none⟩)] wy fun e wz => e = .returned (.slice (some ⟨wy.heap.size, 0, none⟩) NL NL) ∧ SrcT wz (some ⟨wy.heap.size, 0, none⟩) NL NL (nms L) ∧ Below w5.heap.size w5 wz) := fun wy k => by
              have hT := (HT5.out.below k).tab
              refine (listT_at r g L wy hT).mono ?_
              rintro e wz ⟨rfl, hz, kz⟩
              rw [← hNL]
              exact ⟨rfl, SrcT.of_block hz (by simp [nms]; exact hNL.symm) (by rw [hNL]; have := hT.max; unfold maxLen; omega), k.trans (kz.mono k.size)⟩
            have C22 : Hid (∀ wy, Below w5.heap.size w5 wy → Calls Try.prog 22 #[.pointer (some ⟨r2, 0, none⟩)] wy fun e wz => ∃ ta tc, e = .returned (.slice ta NL tc) ∧ SrcT wz ta NL tc (nms L) ∧ Below w5.heap.size w5 wz ∧ Below wy.heap.size wy wz) := fun wy k => by
              refine (rlist_at lb r2 g2 L wy (HT5.out.below k).ref).mono ?_
              rintro e wz ⟨ta, tc, rfl, hz, kz⟩
              rw [← hNL]
              rw [← hNL] at hz
              exact ⟨ta, tc, rfl, hz, k.trans (kz.mono k.size), kz⟩
            have C20 : Hid (∀ wy a1 c1 a2 c2, Below w5.heap.size w5 wy → SrcT wy a1 NL c1 (nms L) → SrcT wy a2 NL c2 (nms L) → Calls Try.prog 20 #[.slice a1 NL c1, .slice a2 NL c2] wy fun e wz => e = .returned (.bool true) ∧ Below w5.heap.size w5 wz) := fun wy a1 c1 a2 c2 k h1 h2 => by
              refine (same_texts wy a1 a2 NL c1 NL c2 (nms L) h1 h2).mono ?_
              rintro e wz ⟨rfl, kz⟩
              exact ⟨rfl, k.trans (kz.mono k.size)⟩
            generalize used L X.now = U at C18 C19
            have HTC : Hid (∀ wy, Below w5.heap.size w5 wy → wy.cell? ⟨bx, 1, none⟩ = some (.int .i64 X.now)) := fun wy k => (HT5.out.below k).cells.1
            have u1 : (!(GT == GT)) = false := by simp
            have u2 : (!(GC == GC)) = false := by simp
            have u3 : (!(((U : Nat) : Int) == ((U : Nat) : Int))) = false := by simp
            clear HLS5 HMS5 hNL
            go_wp2_with fail
            go_region_held3 (fun w' => w'.cell? ⟨bx, 1, none⟩ = some (.int .i64 X.now)) (first | assumption | go_keep) (first
              | (go_at_call 13; refine (C13.out _ (by first | exact (Below.refl _ _).drew | exact Below.refl _ _)).mono ?_; rintro e w6 ⟨rfl, k6⟩; have K6 := hide k6; have hc6 := HTC.out w6 k6; clear k6)
              | (go_at_call 18; refine (C18.out _ K6.out).mono ?_; rintro e w7 ⟨rfl, k7⟩; have K7 := hide k7; have hc7 := HTC.out w7 k7; clear k7)
              | (go_at_call 19; refine (C19.out _ K7.out).mono ?_; rintro e w8 ⟨rfl, k8⟩; have K8 := hide k8; have hc8 := HTC.out w8 k8; clear k8)
              | (go_at_call 21; refine (C21.out _ K8.out).mono ?_; rintro e w9 ⟨rfl, t9, k9⟩; have K9 := hide k9; have T9 := hide t9; have hc9 := HTC.out w9 k9; clear k9 t9)
              | (go_at_call 22; refine (C22.out _ K9.out).mono ?_; rintro e w10 ⟨ta, tc, rfl, t10, k10, kk10⟩; have K10 := hide k10; have T10 := hide t10; have T9b := hide (T9.out.below kk10); have hc10 := HTC.out w10 k10; clear k10 t10 kk10)
              | (go_at_call 20; refine (C20.out _ _ _ _ _ K10.out T9b.out T10.out).mono ?_; rintro e w11 ⟨rfl, k11⟩; have K11 := hide k11; have hc11 := HTC.out w11 k11; clear k11))
            all_goals
              have HT11 := hide (HT5.out.below K11.out)
              have HNU11 : Hid (0 < n4 → la = some ⟨lb, 0, none⟩ ∧ Nums w11 lb n4) := fun h0 => by
                obtain ⟨q1, q2, q3⟩ := HNU5.out h0
                exact ⟨q1, q2.keep (K11.out.block _ q3)⟩
              clear C13 C18 C19 C20 C21 C22 HTC hc6 hc7 hc8 hc9 hc10 hc11 T9 T10 T9b K6 K7 K8 K9 K10 K11 HT5 HNU5
              go_wp2_with fail
              go_loopw [20] (fun v wq => ∃ k : Nat, k ≤ n4 ∧ v = .int .i64 k ∧ Hid (Kept lb lb w11 wq) ∧ Hid (0 < n4 → la = some ⟨lb, 0, none⟩ ∧ Nums wq lb n4)) (fun v _ => n4 - (intOf v).toNat)
              case atStart => exact ⟨0, Nat.zero_le _, rfl, Kept.refl _ _ _, HNU11⟩
              case round =>
                clear HNU11
                obtain ⟨k, hk, rfl, HKq, HNq⟩ := hrel
                by_cases hkn : k < n4
                · have hd2 : decide ((k : Int) < (n4 : Int)) = true := decide_eq_true (by omega)
                  obtain ⟨q1, q2⟩ := HNq.out (by omega)
                  subst q1
                  obtain ⟨⟨y, hy⟩, hfz⟩ := q2.cell (j := k * 4 + 1) (by omega)
                  have HQ2 := hide q2
                  clear q2 HNq
                  go_wp2_with fail
                  go_roundw
                  case rel => exact ⟨k + 1, by omega, by go_num, HKq.out.set _ _, fun h0 => ⟨by first | trivial | rfl, HQ2.out.set _ _⟩⟩
                  case measure => simp [intOf]; omega
                · have hd2 : decide ((k : Int) < (n4 : Int)) = false := decide_eq_false (by omega)
                  have HBE : Hid (Both w wr r g r2 g2 L) := by
                    obtain ⟨p1, p2, p3, p4, p5⟩ := HLB.out
                    have hk' := HKq.out
                    have hT := HT11.out
                    exact ⟨hT.tab.keep (hk'.block r hT.tab.lt.1 (Ne.symm p2) (Ne.symm p2)) (hk'.block g hT.tab.lt.2 (Ne.symm p3) (Ne.symm p3)), (hT.ref.kept (Or.inl rfl) p4 p5 hk').new (Nat.le_refl _), HU.out, hT.bel.trans (hk'.below p1 p1 hT.bel.size), LOW.out.1, LOW.out.2.1, LOW.out.2.2.1, LOW.out.2.2.2⟩
                  go_wp2_with fail
                  go_roundw
                  case rel => exact ⟨i + 1, r, g, L, by omega, by go_num, rfl, HBE⟩
                  case measure => simp [intOf]; omega
        · as_aux_lemma =>
            have HC0 := hide (cloneT_at r g L _ HS0.out.tab)
            have LOW0 : Hid (w.heap.size ≤ r ∧ w.heap.size ≤ g ∧ w.heap.size ≤ r2 ∧ w.heap.size ≤ g2) := ⟨HB.out.r_, HB.out.g_, HB.out.r2_, HB.out.g2_⟩
            have HU : Hid (Uniq L) := HB.out.uniq
            go_wp2_with fail
            refine HC0.out.mono ?_
            rintro e w3 ⟨rfl, h3, k3⟩
            have H3 := hide (HS0.out.below k3)
            have HC3 := hide h3
            obtain ⟨ct, hct⟩ : ∃ ct, ct = (wr.alloc (boxA X)).heap.size + 1 := ⟨_, rfl⟩
            obtain ⟨cg, hcg⟩ : ∃ cg, cg = (wr.alloc (boxA X)).heap.size := ⟨_, rfl⟩
            rw [← hct, ← hcg] at HC3
            unfold boxA at hct
            rw [← hct]
            obtain ⟨bx, hbx⟩ : ∃ bx, bx = wr.heap.size := ⟨_, rfl⟩
            have hlt := HB.out.tab.lt
            have hsz := HB.out.bel.size
            have LOW : Hid (w.heap.size ≤ ct ∧ w.heap.size ≤ cg ∧ w.heap.size ≤ r2 ∧ w.heap.size ≤ g2) := ⟨by rw [hct]; simp; omega, by rw [hcg]; simp; omega, HB.out.r2_, HB.out.g2_⟩
            have HNE : Hid (ct ≠ g ∧ cg ≠ g) := ⟨by rw [hct]; simp; omega, by rw [hcg]; simp; omega⟩
            rw [← hbx] at H3 ⊢
            clear h3 k3 hct hcg hbx HB HS0 HAm HC0 hlt hsz
            go_wp2_with fail
            refine (one_at w3).mono ?_
            rintro e w4 ⟨rfl, s4, k4⟩
            have H4 := hide (H3.out.below k4)
            have HC4 := hide (HC3.out.belowS k4)
            have HP4 := hide (put_at r g L 1 ⟨#[115, 112, 111, 105, 108, 116]⟩ _ 1 1 oneA 99 w4 H4.out.tab s4)
            generalize code L 1 ⟨#[115, 112, 111, 105, 108, 116]⟩ 1 99 = cd4 at HP4
            generalize put L 1 ⟨#[115, 112, 111, 105, 108, 116]⟩ oneA 99 = L4 at HP4
            clear s4 k4 H3 HC3
            go_wp2_with fail
            refine HP4.out.mono ?_
            rintro e w5 ⟨rfl, h5, k5⟩
            have H5 := hide (H4.out.tabKept LOW0.out.2.1 k5 h5)
            have HC5 := hide (HC4.out.keep (k5.block ct HC4.out.lt.1 HNE.out.1 HNE.out.1) (k5.block cg HC4.out.lt.2 HNE.out.2 HNE.out.2))
            clear h5 k5 H4 HC4 HP4
            have C15 : Hid (∀ wy, Below w5.heap.size w5 wy → Calls Try.prog 15 #[] wy fun e wz => ∃ ob, e = .returned (.slice (some ⟨ob, 0, none⟩) 1 1) ∧ SrcA wz (some ⟨ob, 0, none⟩) 1 1 oneA ∧ Below w5.heap.size w5 wz) := fun wy k => by
              refine (one_at wy).mono ?_
              rintro e wz ⟨rfl, hz, kz⟩
              exact ⟨_, rfl, hz, k.trans (kz.mono k.size)⟩
            have C11 : Hid (∀ wy ob, Below w5.heap.size w5 wy → SrcA wy (some ⟨ob, 0, none⟩) 1 1 oneA → Calls Try.prog 11 #[.pointer (some ⟨r, 0, none⟩), .int .i64 1, .string X.name, .slice (some ⟨ob, 0, none⟩) 1 1, .int .i64 0] wy fun e wz => ∃ cd, e = .returned (.int .i64 cd) ∧ St w wz ct cg r2 g2 bx bx L L X) := fun wy ob k hs => by
              have hS := H5.out.below k
              refine (put_at r g L4 1 X.name _ 1 1 oneA 0 wy hS.tab hs).mono ?_
              rintro e wz ⟨rfl, hz, kz⟩
              have hS2 := hS.tabKept LOW0.out.2.1 kz hz
              have hC := HC5.out.belowS k
              exact ⟨_, rfl, hC.keep (kz.block ct hC.lt.1 HNE.out.1 HNE.out.1) (kz.block cg hC.lt.2 HNE.out.2 HNE.out.2), hS2.ref, hS2.bel, hS2.box, hS2.src, hS2.old⟩
            obtain ⟨b1, b2, b3, b4, b5⟩ := H5.out.cells
            go_wp2_with fail
            go_region_held3 (fun w' => w'.cell? ⟨bx, 3, none⟩ = some (.string X.name)) (first | assumption | go_keep) (first
              | (go_at_call 15; refine (C15.out _ (by first | exact (Below.refl _ _).drew | exact Below.refl _ _)).mono ?_; rintro e w6 ⟨ob, rfl, s6, k6⟩; have K6 := hide k6; have S6 := hide s6; have hc6 := (H5.out.below k6).cells.2.2.1; clear k6 s6)
              | (go_at_call 11; refine (C11.out _ _ K6.out S6.out).mono ?_; rintro e wt ⟨cd, rfl, s7⟩; have S7 := hide s7; have hc7 := s7.cells.2.2.1; clear s7))
            all_goals
              obtain ⟨b1, b2, b3, b4, b5⟩ := S7.out.cells
              have HT := S7
              clear S7 C15 C11 K6 S6 H5 HC5 LOW0 HNE hc6 hc7
              go_wp2_with fail
              -- the tail
              have HG := hide (get_at ct cg L X.now X.name wt HT.out.tab)
              have hGok := hide (getA_ok HT.out.tab.ok X.now X.name)
              have hGfew := getA_few HT.out.tab.ok X.now X.name
              have HG2 : Hid (∀ x w', RT x w' r2 g2 L → Calls Try.prog 17 #[.pointer (some ⟨r2, 0, none⟩), .int .i64 X.now, .string X.name] w' fun e w'' => ∃ v, e = .returned (.tuple #[v, .int .i64 (getT L X.now X.name), .int .i64 (getC L X.now X.name)]) ∧ OwnA w'' w'.heap.size v (getA L X.now X.name) ∧ Below w'.heap.size w' w'') := fun x w' h => rget_at x r2 g2 L X.now X.name w' h HU.out
              generalize getA L X.now X.name = GA at HG HG2 hGok hGfew
              generalize getT L X.now X.name = GT at HG HG2
              generalize getC L X.now X.name = GC at HG HG2
              refine HG.out.mono ?_
              rintro e w4 ⟨v, rfl, ho, k4⟩
              obtain ⟨la, lc, lb, rfl, hnum, _, hlb, hlm, hlc2, hls⟩ := ho.blk hGok.out
              have HT4 : Hid (St w w4 ct cg r2 g2 lb bx L L X) := (⟨HT.out.tab, HT.out.ref.new hlb, HT.out.bel, HT.out.box, HT.out.src, HT.out.old⟩ : St w wt ct cg r2 g2 lb bx L L X).below k4
              have HLB : Hid (w.heap.size ≤ lb ∧ lb ≠ ct ∧ lb ≠ cg ∧ lb ≠ r2 ∧ lb ≠ g2) := by
                have h1 := HT.out.bel.size
                have h2 := HT.out.tab.lt
                have h3 := HT.out.ref.lt
                exact ⟨by omega, by omega, by omega, by omega, by omega⟩
              have HNU := hide hnum
              have HLS := hide hls
              obtain ⟨n4, hn4⟩ : ∃ n4, n4 = GA.length := ⟨_, rfl⟩
              rw [← hn4] at HNU HLS hGfew hlc2 ⊢
              obtain ⟨b1, b2, b3, b4, b5⟩ := HT4.out.cells
              unfold maxLen at hlm
              have HN4 := hide hn4
              clear ho k4 hnum hlb hls HT HG hn4
              go_wp2_with fail
              refine (HG2.out lb w4 HT4.out.ref).mono ?_
              rintro e w5 ⟨v5, rfl, ho, k5⟩
              obtain ⟨ma, mc, mb, rfl, _, _, _, _, _, hms⟩ := ho.blk hGok.out
              have HT5 := hide (HT4.out.below k5)
              have HLS5 := hide (HLS.out.below k5)
              have HMS5 := hide hms
              have HNU5 : Hid (0 < n4 → la = some ⟨lb, 0, none⟩ ∧ Nums w5 lb n4 ∧ lb < w5.heap.size) := fun h0 => by
                obtain ⟨q1, q2, q3⟩ := HNU.out h0
                exact ⟨q1, q2.keep (k5.block _ q3), by have := k5.size; omega⟩
              obtain ⟨b1, b2, b3, b4, b5⟩ := HT5.out.cells
              rw [← HN4.out] at HMS5 ⊢
              clear ho k5 hms HT4 HLS HNU HG2
              obtain ⟨NL, hNL⟩ : ∃ NL, NL = L.length := ⟨_, rfl⟩
              have C13 : Hid (∀ wy, Below w5.heap.size w5 wy → Calls Try.prog 13 #[.slice la n4 lc, .slice ma n4 mc] wy fun e wz => e = .returned (.bool true) ∧ Below w5.heap.size w5 wz) := fun wy k => by
                refine (same_addrs wy la ma n4 lc n4 mc GA (HLS5.out.below k) (HMS5.out.below k)).mono ?_
                rintro e wz ⟨rfl, kz⟩
                exact ⟨rfl, k.trans (kz.mono k.size)⟩
              have C18 : Hid (∀ wy, Below w5.heap.size w5 wy → Calls Try.prog 18 #[.pointer (some ⟨ct, 0, none⟩), .int .i64 X.now] wy fun e wz => e = .returned (.int .i64 (used L X.now : Nat)) ∧ Below w5.heap.size w5 wz) := fun wy k => by
                refine (used_at ct cg L X.now wy (HT5.out.below k).tab).mono ?_
                rintro e wz ⟨rfl, kz⟩
                exact ⟨rfl, k.trans (kz.mono k.size)⟩
              have C19 : Hid (∀ wy, Below w5.heap.size w5 wy → Calls Try.prog 19 #[.pointer (some ⟨r2, 0, none⟩), .int .i64 X.now] wy fun e wz => e = .returned (.int .i64 (used L X.now : Nat)) ∧ Below w5.heap.size w5 wz) := fun wy k => by
                refine (rused_at r2 g2 L.length L X.now wy (HT5.out.below k).ref.reads).mono ?_
                rintro e wz ⟨rfl, kz⟩
                exact ⟨rfl, k.trans (kz.mono k.size)⟩
              have C21 : Hid (∀ wy, Below w5.heap.size w5 wy → Calls Try.prog 21 #[.pointer (some ⟨ct, 0, none⟩)] wy fun e wz => e = .returned (.slice (some ⟨wy.heap.size, 0, none⟩) NL NL) ∧ SrcT wz (some ⟨wy.heap.size, 0, none⟩) NL NL (nms L) ∧ Below w5.heap.size w5 wz) := fun wy k => by
                have hT := (HT5.out.below k).tab
                refine (listT_at ct cg L wy hT).mono ?_
                rintro e wz ⟨rfl, hz, kz⟩
                rw [← hNL]
                exact ⟨rfl, SrcT.of_block hz (by simp [nms]; exact hNL.symm) (by rw [hNL]; have := hT.max; unfold maxLen; omega), k.trans (kz.mono k.size)⟩
              have C22 : Hid (∀ wy, Below w5.heap.size w5 wy → Calls Try.prog 22 #[.pointer (some ⟨r2, 0, none⟩)] wy fun e wz => ∃ ta tc, e = .returned (.slice ta NL tc) ∧ SrcT wz ta NL tc (nms L) ∧ Below w5.heap.size w5 wz ∧ Below wy.heap.size wy wz) := fun wy k => by
                refine (rlist_at lb r2 g2 L wy (HT5.out.below k).ref).mono ?_
                rintro e wz ⟨ta, tc, rfl, hz, kz⟩
                rw [← hNL]
                rw [← hNL] at hz
                exact ⟨ta, tc, rfl, hz, k.trans (kz.mono k.size), kz⟩
              have C20 : Hid (∀ wy a1 c1 a2 c2, Below w5.heap.size w5 wy → SrcT wy a1 NL c1 (nms L) → SrcT wy a2 NL c2 (nms L) → Calls Try.prog 20 #[.slice a1 NL c1, .slice a2 NL c2] wy fun e wz => e = .returned (.bool true) ∧ Below w5.heap.size w5 wz) := fun wy a1 c1 a2 c2 k h1 h2 => by
                refine (same_texts wy a1 a2 NL c1 NL c2 (nms L) h1 h2).mono ?_
                rintro e wz ⟨rfl, kz⟩
                exact ⟨rfl, k.trans (kz.mono k.size)⟩
              generalize used L X.now = U at C18 C19
              have HTC : Hid (∀ wy, Below w5.heap.size w5 wy → wy.cell? ⟨bx, 1, none⟩ = some (.int .i64 X.now)) := fun wy k => (HT5.out.below k).cells.1
              have u1 : (!(GT == GT)) = false := by simp
              have u2 : (!(GC == GC)) = false := by simp
              have u3 : (!(((U : Nat) : Int) == ((U : Nat) : Int))) = false := by simp
              clear HLS5 HMS5 hNL
              go_wp2_with fail
              go_region_held3 (fun w' => w'.cell? ⟨bx, 1, none⟩ = some (.int .i64 X.now)) (first | assumption | go_keep) (first
                | (go_at_call 13; refine (C13.out _ (by first | exact (Below.refl _ _).drew | exact Below.refl _ _)).mono ?_; rintro e w6 ⟨rfl, k6⟩; have K6 := hide k6; have hc6 := HTC.out w6 k6; clear k6)
                | (go_at_call 18; refine (C18.out _ K6.out).mono ?_; rintro e w7 ⟨rfl, k7⟩; have K7 := hide k7; have hc7 := HTC.out w7 k7; clear k7)
                | (go_at_call 19; refine (C19.out _ K7.out).mono ?_; rintro e w8 ⟨rfl, k8⟩; have K8 := hide k8; have hc8 := HTC.out w8 k8; clear k8)
                | (go_at_call 21; refine (C21.out _ K8.out).mono ?_; rintro e w9 ⟨rfl, t9, k9⟩; have K9 := hide k9; have T9 := hide t9; have hc9 := HTC.out w9 k9; clear k9 t9)
                | (go_at_call 22; refine (C22.out _ K9.out).mono ?_; rintro e w10 ⟨ta, tc, rfl, t10, k10, kk10⟩; have K10 := hide k10; have T10 := hide t10; have T9b := hide (T9.out.below kk10); have hc10 := HTC.out w10 k10; clear k10 t10 kk10)
                | (go_at_call 20; refine (C20.out _ _ _ _ _ K10.out T9b.out T10.out).mono ?_; rintro e w11 ⟨rfl, k11⟩; have K11 := hide k11; have hc11 := HTC.out w11 k11; clear k11))
              all_goals
                have HT11 := hide (HT5.out.below K11.out)
                have HNU11 : Hid (0 < n4 → la = some ⟨lb, 0, none⟩ ∧ Nums w11 lb n4) := fun h0 => by
                  obtain ⟨q1, q2, q3⟩ := HNU5.out h0
                  exact ⟨q1, q2.keep (K11.out.block _ q3)⟩
                clear C13 C18 C19 C20 C21 C22 HTC hc6 hc7 hc8 hc9 hc10 hc11 T9 T10 T9b K6 K7 K8 K9 K10 K11 HT5 HNU5
                go_wp2_with fail
                go_loopw [20] (fun v wq => ∃ k : Nat, k ≤ n4 ∧ v = .int .i64 k ∧ Hid (Kept lb lb w11 wq) ∧ Hid (0 < n4 → la = some ⟨lb, 0, none⟩ ∧ Nums wq lb n4)) (fun v _ => n4 - (intOf v).toNat)
                case atStart => exact ⟨0, Nat.zero_le _, rfl, Kept.refl _ _ _, HNU11⟩
                case round =>
                  clear HNU11
                  obtain ⟨k, hk, rfl, HKq, HNq⟩ := hrel
                  by_cases hkn : k < n4
                  · have hd2 : decide ((k : Int) < (n4 : Int)) = true := decide_eq_true (by omega)
                    obtain ⟨q1, q2⟩ := HNq.out (by omega)
                    subst q1
                    obtain ⟨⟨y, hy⟩, hfz⟩ := q2.cell (j := k * 4 + 1) (by omega)
                    have HQ2 := hide q2
                    clear q2 HNq
                    go_wp2_with fail
                    go_roundw
                    case rel => exact ⟨k + 1, by omega, by go_num, HKq.out.set _ _, fun h0 => ⟨by first | trivial | rfl, HQ2.out.set _ _⟩⟩
                    case measure => simp [intOf]; omega
                  · have hd2 : decide ((k : Int) < (n4 : Int)) = false := decide_eq_false (by omega)
                    have HBE : Hid (Both w wr ct cg r2 g2 L) := by
                      obtain ⟨p1, p2, p3, p4, p5⟩ := HLB.out
                      have hk' := HKq.out
                      have hT := HT11.out
                      exact ⟨hT.tab.keep (hk'.block ct hT.tab.lt.1 (Ne.symm p2) (Ne.symm p2)) (hk'.block cg hT.tab.lt.2 (Ne.symm p3) (Ne.symm p3)), (hT.ref.kept (Or.inl rfl) p4 p5 hk').new (Nat.le_refl _), HU.out, hT.bel.trans (hk'.below p1 p1 hT.bel.size), LOW.out.1, LOW.out.2.1, LOW.out.2.2.1, LOW.out.2.2.2⟩
                    go_wp2_with fail
                    go_roundw
                    case rel => exact ⟨i + 1, ct, cg, L, by omega, by go_num, rfl, HBE⟩
                    case measure => simp [intOf]; omega
        · as_aux_lemma =>
            have HR0 : Hid (RT wr.heap.size wr r2 g2 L) := HB.out.ref
            have HT0 : Hid (IsTab wr r g L) := HB.out.tab
            have LOW : Hid (w.heap.size ≤ r ∧ w.heap.size ≤ g ∧ w.heap.size ≤ r2 ∧ w.heap.size ≤ g2) := ⟨HB.out.r_, HB.out.g_, HB.out.r2_, HB.out.g2_⟩
            have HU0 : Hid (Uniq L) := HB.out.uniq
            have hsz1 : (wr.alloc (boxA X)).heap.size = wr.heap.size + 1 := by simp
            obtain ⟨v3, w3, ap, ow, bl⟩ := run_appS (own_new37 (wr.alloc (boxA X))) (HS0.out.src.below ((Below.refl _ _).alloc (Nat.le_refl _) (.cells #[] 37))) (by have := HIN.out.2; simp; omega) (by simp)
            rw [List.nil_append] at ow
            rw [hsz1] at ap ow bl
            obtain ⟨oa, oc, ob, rfl, onum, hob0, hob, hom, hoc, hos⟩ := ow.blk HS0.out.src.byte
            have hon := HS0.out.src.hlen
            rw [hon] at ap onum hoc hos
            have kb : Below wr.heap.size wr w3 := (((Below.refl wr.heap.size wr).alloc (Nat.le_refl _) (boxA X)).alloc (by simp) (.cells #[] 37)).trans (bl.mono (by omega))
            have hsz3 : wr.heap.size + 1 < w3.heap.size := by have := bl.size; simp at this; omega
            have hob1 : ob < w3.heap.size := by rcases hob0 with h | h <;> omega
            have H3 : Hid (St w w3 r g r2 g2 ob wr.heap.size L L X) := by
              have hS := HS0.out
              exact ⟨HT0.out.belowS kb, (HR0.out.new (by omega)).below kb, HB.out.bel.trans (kb.mono HB.out.bel.size), (bl.block _ (by omega)).trans (alloc_old _ (alloc_new _ _)), hS.src.keep (fun h0 b o e => by have h1 := hS.old b o h0 e; have h2 := HB.out.bel.size; exact (bl.block b (by omega)).trans (Below.heap_alloc _ _ _ (by simp; omega))) (by simp; omega), hS.old⟩
            have HOB : Hid (w.heap.size ≤ ob ∧ ob ≠ r ∧ ob ≠ g ∧ ob ≠ r2 ∧ ob ≠ g2 ∧ ob ≠ wr.heap.size ∧ ob < w3.heap.size) := by
              have h1 := HB.out.bel.size
              have h2 := HT0.out.lt
              have h3 := HR0.out.lt
              exact ⟨by omega, by omega, by omega, by omega, by omega, by omega, hob1⟩
            obtain ⟨bx, hbx⟩ : ∃ bx, bx = wr.heap.size := ⟨_, rfl⟩
            have AP := hide ap
            have ON : Hid (0 < X.n → oa = some ⟨ob, 0, none⟩ ∧ Nums w3 ob X.n ∧ ob < w3.heap.size) := onum
            have OS := hide hos
            unfold maxLen at hom
            clear ap ow bl onum hob0 hob kb hsz3 hob1 HR0 HT0 hos HAm HB HS0 hsz1
            go_wp2_with (refine wpList_app_run _ rfl _ _ 30 30 rfl (.slice (some ⟨wr.heap.size + 1, 0, none⟩) 0 0) (.slice X.a X.n X.c) rfl rfl AP.out ?_)
            rw [← hbx] at H3 HOB ⊢
            have hnX : Hid (X.n = X.ads.length) := hon.symm
            obtain ⟨n3, hn3⟩ : ∃ n3, n3 = X.n := ⟨_, rfl⟩
            rw [← hn3] at ON OS hoc ⊢
            have HN3 := hide hn3
            clear AP hbx hon hn3
            -- the two Puts
            have HU2 := hide (put_uniq HU0.out X.now X.name X.ads X.ttl)
            have C11 : Hid (∀ wy, Below w3.heap.size w3 wy → Calls Try.prog 11 #[.pointer (some ⟨r, 0, none⟩), .int .i64 X.now, .string X.name, .slice oa n3 oc, .int .i64 X.ttl] wy fun e wz => e = .returned (.int .i64 (code L X.now X.name n3 X.ttl)) ∧ St w wz r g r2 g2 ob bx (put L X.now X.name X.ads X.ttl) L X ∧ (0 < n3 → oa = some ⟨ob, 0, none⟩ ∧ Nums wz ob n3 ∧ ob < wz.heap.size) ∧ SrcA wz oa n3 oc X.ads ∧ w3.heap.size ≤ wz.heap.size) := fun wy k => by
              have hS := H3.out.below k
              have hO := OS.out.below k
              refine (put_at r g L X.now X.name oa n3 oc X.ads X.ttl wy hS.tab hO).mono ?_
              rintro e wz ⟨rfl, hz, kz⟩
              have hs1 := k.size
              have hs2 := kz.size
              have key : 0 < n3 → wz.heap[ob]? = w3.heap[ob]? := fun h0 => (kz.block ob (by have := HOB.out.2.2.2.2.2.2; omega) HOB.out.2.2.1 HOB.out.2.2.1).trans (k.block ob HOB.out.2.2.2.2.2.2)
              refine ⟨rfl, hS.tabKept LOW.out.2.1 kz hz, fun h0 => ⟨(ON.out h0).1, (ON.out h0).2.1.keep (key h0), by have := HOB.out.2.2.2.2.2.2; omega⟩, hO.keep (fun h0 b o e => ?_) kz.size, by omega⟩
              obtain ⟨q1, _, _⟩ := ON.out h0
              rw [q1] at e
              simp only [Option.some.injEq, Addr.mk.injEq, and_true] at e
              obtain ⟨rfl, rfl⟩ := e
              exact kz.block ob (by have := HOB.out.2.2.2.2.2.2; omega) HOB.out.2.2.1 HOB.out.2.2.1
            have C12 : Hid (∀ wy, St w wy r g r2 g2 ob bx (put L X.now X.name X.ads X.ttl) L X → (0 < n3 → oa = some ⟨ob, 0, none⟩ ∧ Nums wy ob n3 ∧ ob < wy.heap.size) → SrcA wy oa n3 oc X.ads → w3.heap.size ≤ wy.heap.size → Calls Try.prog 12 #[.pointer (some ⟨r2, 0, none⟩), .int .i64 X.now, .string X.name, .slice X.a n3 X.c, .int .i64 X.ttl] wy fun e wz => e = .returned (.int .i64 (code L X.now X.name n3 X.ttl)) ∧ St w wz r g r2 g2 ob bx (put L X.now X.name X.ads X.ttl) (put L X.now X.name X.ads X.ttl) X ∧ (0 < n3 → oa = some ⟨ob, 0, none⟩ ∧ Nums wz ob n3 ∧ ob < wz.heap.size) ∧ SrcA wz oa n3 oc X.ads) := fun wy hS hN hO hsz => by
              have hsr := hS.src
              rw [← HN3.out] at hsr
              refine (rput_at ob r2 g2 L X.now X.name X.a n3 X.c X.ads X.ttl wy hS.ref HU0.out hsr (by have := HOB.out.2.2.2.2.2.2; omega)).mono ?_
              rintro e wz ⟨rfl, hz, kz⟩
              have hs2 := kz.size
              have hne := HOB.out.2.2.2.2.1
              refine ⟨rfl, hS.refKept LOW.out.2.2.2 kz hz, fun h0 => ⟨(hN h0).1, (hN h0).2.1.keep (kz.block ob (hN h0).2.2 hne hne), by have := (hN h0).2.2; omega⟩, hO.keep (fun h0 b o e => ?_) kz.size⟩
              obtain ⟨q1, _, q3⟩ := hN h0
              rw [q1] at e
              simp only [Option.some.injEq, Addr.mk.injEq, and_true] at e
              obtain ⟨rfl, rfl⟩ := e
              exact kz.block ob q3 hne hne
            generalize code L X.now X.name n3 X.ttl = C at C11 C12
            generalize put L X.now X.name X.ads X.ttl = L2 at C11 C12 HU2
            have C13 : Hid (∀ wy, St w wy r g r2 g2 ob bx L2 L2 X → SrcA wy oa n3 oc X.ads → Calls Try.prog 13 #[.slice oa n3 oc, .slice X.a n3 X.c] wy fun e wz => e = .returned (.bool true) ∧ St w wz r g r2 g2 ob bx L2 L2 X ∧ Below wy.heap.size wy wz) := fun wy hS hO => by
              have hsr := hS.src
              rw [← HN3.out] at hsr
              refine (same_addrs wy oa X.a n3 oc n3 X.c X.ads hO hsr).mono ?_
              rintro e wz ⟨rfl, kz⟩
              exact ⟨rfl, hS.below kz, kz⟩
            have HCE : Hid (∀ wy LT LR, St w wy r g r2 g2 ob bx LT LR X → wy.cell? ⟨bx, 1, none⟩ = some (.int .i64 X.now) ∧ wy.cell? ⟨bx, 2, none⟩ = some (.int .i64 X.ttl) ∧ wy.cell? ⟨bx, 3, none⟩ = some (.string X.name) ∧ wy.cell? ⟨bx, 4, none⟩ = some (.slice X.a n3 X.c)) := fun wy LT LR h => by
              obtain ⟨q1, q2, q3, q4, _⟩ := h.cells
              rw [← HN3.out] at q4
              exact ⟨q1, q2, q3, q4⟩
            obtain ⟨b1, b2, b3, b4⟩ := HCE.out w3 L L H3.out
            have u0 : (!(C == C)) = false := by simp
            go_wp2_with fail
            go_region_held3 (fun w' => w'.cell? ⟨bx, 1, none⟩ = some (.int .i64 X.now) ∧ w'.cell? ⟨bx, 2, none⟩ = some (.int .i64 X.ttl) ∧ w'.cell? ⟨bx, 3, none⟩ = some (.string X.name) ∧ w'.cell? ⟨bx, 4, none⟩ = some (.slice X.a n3 X.c)) (first | assumption | exact ⟨by assumption, by assumption, by assumption, by assumption⟩ | go_keep) (first
              | (go_at_call 11; refine (C11.out _ (by first | exact (Below.refl _ _).drew | exact Below.refl _ _)).mono ?_; rintro e w4 ⟨rfl, s4, n4, o4, z4⟩; have S4 := hide s4; have N4 := hide n4; have O4 := hide o4; obtain ⟨f41, f42, f43, f44⟩ := HCE.out w4 _ _ s4; clear s4 n4 o4)
              | (go_at_call 12; refine (C12.out _ S4.out N4.out O4.out z4).mono ?_; rintro e w5 ⟨rfl, s5, n5, o5⟩; have S5 := hide s5; have N5 := hide n5; have O5 := hide o5; obtain ⟨f51, f52, f53, f54⟩ := HCE.out w5 _ _ s5; clear s5 n5 o5)
              | (go_at_call 13; refine (C13.out _ S5.out O5.out).mono ?_; rintro e w6 ⟨rfl, s6, k6⟩; have S6 := hide s6; have N6 : Hid (0 < n3 → oa = some ⟨ob, 0, none⟩ ∧ Nums w6 ob n3) := (fun h0 => ⟨(N5.out h0).1, (N5.out h0).2.1.keep (k6.block ob (N5.out h0).2.2)⟩); obtain ⟨f61, f62, f63, f64⟩ := HCE.out w6 _ _ s6; clear s6 k6))
            all_goals
              clear C11 C12 C13 S4 N4 O4 S5 N5 O5 f41 f42 f43 f44 f51 f52 f53 f54 f61 f62 f63 f64 ON OS H3 b1 b2 b3 b4
              go_wp2_with fail
              go_loopw [12] (fun v wq => ∃ k : Nat, k ≤ n3 ∧ v = .int .i64 k ∧ Hid (Kept ob ob w6 wq) ∧ Hid (0 < n3 → oa = some ⟨ob, 0, none⟩ ∧ Nums wq ob n3)) (fun v _ => n3 - (intOf v).toNat)
              case atStart => exact ⟨0, Nat.zero_le _, rfl, Kept.refl _ _ _, N6⟩
              case round =>
                clear N6
                obtain ⟨k, hk, rfl, HKq, HNq⟩ := hrel
                by_cases hkn : k < n3
                · have hd2 : decide ((k : Int) < (n3 : Int)) = true := decide_eq_true (by omega)
                  obtain ⟨q1, q2⟩ := HNq.out (by omega)
                  subst q1
                  obtain ⟨⟨y, hy⟩, hfz⟩ := q2.cell (j := k * 4) (by omega)
                  have HQ2 := hide q2
                  clear q2 HNq
                  go_wp2_with fail
                  go_roundw
                  case rel => exact ⟨k + 1, by omega, by go_num, HKq.out.set _ _, fun h0 => ⟨by first | trivial | rfl, HQ2.out.set _ _⟩⟩
                  case measure => simp [intOf]; omega
                · have hd2 : decide ((k : Int) < (n3 : Int)) = false := decide_eq_false (by omega)
                  have HT : Hid (St w wr r g r2 g2 ob bx L2 L2 X) := S6.out.ownKept HOB.out.1 HOB.out.2.1 HOB.out.2.2.1 HOB.out.2.2.2.1 HOB.out.2.2.2.2.1 HOB.out.2.2.2.2.2.1 HKq.out
                  have HU := HU2
                  obtain ⟨b1, b2, b3, b4, b5⟩ := HT.out.cells
                  clear HKq HNq hd2 HU0 HU2
                  go_wp2_with fail
                  -- the tail
                  have HG := hide (get_at r g L2 X.now X.name wr HT.out.tab)
                  have hGok := hide (getA_ok HT.out.tab.ok X.now X.name)
                  have hGfew := getA_few HT.out.tab.ok X.now X.name
                  have HG2 : Hid (∀ x w', RT x w' r2 g2 L2 → Calls Try.prog 17 #[.pointer (some ⟨r2, 0, none⟩), .int .i64 X.now, .string X.name] w' fun e w'' => ∃ v, e = .returned (.tuple #[v, .int .i64 (getT L2 X.now X.name), .int .i64 (getC L2 X.now X.name)]) ∧ OwnA w'' w'.heap.size v (getA L2 X.now X.name) ∧ Below w'.heap.size w' w'') := fun x w' h => rget_at x r2 g2 L2 X.now X.name w' h HU.out
                  generalize getA L2 X.now X.name = GA at HG HG2 hGok hGfew
                  generalize getT L2 X.now X.name = GT at HG HG2
                  generalize getC L2 X.now X.name = GC at HG HG2
                  refine HG.out.mono ?_
                  rintro e w4 ⟨v, rfl, ho, k4⟩
                  obtain ⟨la, lc, lb, rfl, hnum, _, hlb, hlm, hlc2, hls⟩ := ho.blk hGok.out
                  have HT4 : Hid (St w w4 r g r2 g2 lb bx L2 L2 X) := (⟨HT.out.tab, HT.out.ref.new hlb, HT.out.bel, HT.out.box, HT.out.src, HT.out.old⟩ : St w wr r g r2 g2 lb bx L2 L2 X).below k4
                  have HLB : Hid (w.heap.size ≤ lb ∧ lb ≠ r ∧ lb ≠ g ∧ lb ≠ r2 ∧ lb ≠ g2) := by
                    have h1 := HT.out.bel.size
                    have h2 := HT.out.tab.lt
                    have h3 := HT.out.ref.lt
                    exact ⟨by omega, by omega, by omega, by omega, by omega⟩
                  have HNU := hide hnum
                  have HLS := hide hls
                  obtain ⟨n4, hn4⟩ : ∃ n4, n4 = GA.length := ⟨_, rfl⟩
                  rw [← hn4] at HNU HLS hGfew hlc2 ⊢
                  obtain ⟨b1, b2, b3, b4, b5⟩ := HT4.out.cells
                  unfold maxLen at hlm
                  have HN4 := hide hn4
                  clear ho k4 hnum hlb hls HT HG hn4
                  go_wp2_with fail
                  refine (HG2.out lb w4 HT4.out.ref).mono ?_
                  rintro e w5 ⟨v5, rfl, ho, k5⟩
                  obtain ⟨ma, mc, mb, rfl, _, _, _, _, _, hms⟩ := ho.blk hGok.out
                  have HT5 := hide (HT4.out.below k5)
                  have HLS5 := hide (HLS.out.below k5)
                  have HMS5 := hide hms
                  have HNU5 : Hid (0 < n4 → la = some ⟨lb, 0, none⟩ ∧ Nums w5 lb n4 ∧ lb < w5.heap.size) := fun h0 => by
                    obtain ⟨q1, q2, q3⟩ := HNU.out h0
                    exact ⟨q1, q2.keep (k5.block _ q3), by have := k5.size; omega⟩
                  obtain ⟨b1, b2, b3, b4, b5⟩ := HT5.out.cells
                  rw [← HN4.out] at HMS5 ⊢
                  clear ho k5 hms HT4 HLS HNU HG2
                  obtain ⟨NL, hNL⟩ : ∃ NL, NL = L2.length := ⟨_, rfl⟩
                  have C13 : Hid (∀ wy, Below w5.heap.size w5 wy → Calls Try.prog 13 #[.slice la n4 lc, .slice ma n4 mc] wy fun e wz => e = .returned (.bool true) ∧ Below w5.heap.size w5 wz) := fun wy k => by
                    refine (same_addrs wy la ma n4 lc n4 mc GA (HLS5.out.below k) (HMS5.out.below k)).mono ?_
                    rintro e wz ⟨rfl, kz⟩
                    exact ⟨rfl, k.trans (kz.mono k.size)⟩
                  have C18 : Hid (∀ wy, Below w5.heap.size w5 wy → Calls Try.prog 18 #[.pointer (some ⟨r, 0, none⟩), .int .i64 X.now] wy fun e wz => e = .returned (.int .i64 (used L2 X.now : Nat)) ∧ Below w5.heap.size w5 wz) := fun wy k => by
                    refine (used_at r g L2 X.now wy (HT5.out.below k).tab).mono ?_
                    rintro e wz ⟨rfl, kz⟩
                    exact ⟨rfl, k.trans (kz.mono k.size)⟩
                  have C19 : Hid (∀ wy, Below w5.heap.size w5 wy → Calls Try.prog 19 #[.pointer (some ⟨r2, 0, none⟩), .int .i64 X.now] wy fun e wz => e = .returned (.int .i64 (used L2 X.now : Nat)) ∧ Below w5.heap.size w5 wz) := fun wy k => by
                    refine (rused_at r2 g2 L2.length L2 X.now wy (HT5.out.below k).ref.reads).mono ?_
                    rintro e wz ⟨rfl, kz⟩
                    exact ⟨rfl, k.trans (kz.mono k.size)⟩
                  have C21 : Hid (∀ wy, Below w5.heap.size w5 wy → Calls Try.prog 21 #[.pointer (some ⟨r, 0, none⟩)] wy fun e wz => e = .returned (.slice (some ⟨wy.heap.size, 0, none⟩) NL NL) ∧ SrcT wz (some ⟨wy.heap.size, 0, none⟩) NL NL (nms L2) ∧ Below w5.heap.size w5 wz) := fun wy k => by
                    have hT := (HT5.out.below k).tab
                    refine (listT_at r g L2 wy hT).mono ?_
                    rintro e wz ⟨rfl, hz, kz⟩
                    rw [← hNL]
                    exact ⟨rfl, SrcT.of_block hz (by simp [nms]; exact hNL.symm) (by rw [hNL]; have := hT.max; unfold maxLen; omega), k.trans (kz.mono k.size)⟩
                  have C22 : Hid (∀ wy, Below w5.heap.size w5 wy → Calls Try.prog 22 #[.pointer (some ⟨r2, 0, none⟩)] wy fun e wz => ∃ ta tc, e = .returned (.slice ta NL tc) ∧ SrcT wz ta NL tc (nms L2) ∧ Below w5.heap.size w5 wz ∧ Below wy.heap.size wy wz) := fun wy k => by
                    refine (rlist_at lb r2 g2 L2 wy (HT5.out.below k).ref).mono ?_
                    rintro e wz ⟨ta, tc, rfl, hz, kz⟩
                    rw [← hNL]
                    rw [← hNL] at hz
                    exact ⟨ta, tc, rfl, hz, k.trans (kz.mono k.size), kz⟩
                  have C20 : Hid (∀ wy a1 c1 a2 c2, Below w5.heap.size w5 wy → SrcT wy a1 NL c1 (nms L2) → SrcT wy a2 NL c2 (nms L2) → Calls Try.prog 20 #[.slice a1 NL c1, .slice a2 NL c2] wy fun e wz => e = .returned (.bool true) ∧ Below w5.heap.size w5 wz) := fun wy a1 c1 a2 c2 k h1 h2 => by
                    refine (same_texts wy a1 a2 NL c1 NL c2 (nms L2) h1 h2).mono ?_
                    rintro e wz ⟨rfl, kz⟩
                    exact ⟨rfl, k.trans (kz.mono k.size)⟩
                  generalize used L2 X.now = U at C18 C19
                  have HTC : Hid (∀ wy, Below w5.heap.size w5 wy → wy.cell? ⟨bx, 1, none⟩ = some (.int .i64 X.now)) := fun wy k => (HT5.out.below k).cells.1
                  have u1 : (!(GT == GT)) = false := by simp
                  have u2 : (!(GC == GC)) = false := by simp
                  have u3 : (!(((U : Nat) : Int) == ((U : Nat) : Int))) = false := by simp
                  clear HLS5 HMS5 hNL
                  go_wp2_with fail
                  go_region_held3 (fun w' => w'.cell? ⟨bx, 1, none⟩ = some (.int .i64 X.now)) (first | assumption | go_keep) (first
                    | (go_at_call 13; refine (C13.out _ (by first | exact (Below.refl _ _).drew | exact Below.refl _ _)).mono ?_; rintro e w6 ⟨rfl, k6⟩; have K6 := hide k6; have hc6 := HTC.out w6 k6; clear k6)
                    | (go_at_call 18; refine (C18.out _ K6.out).mono ?_; rintro e w7 ⟨rfl, k7⟩; have K7 := hide k7; have hc7 := HTC.out w7 k7; clear k7)
                    | (go_at_call 19; refine (C19.out _ K7.out).mono ?_; rintro e w8 ⟨rfl, k8⟩; have K8 := hide k8; have hc8 := HTC.out w8 k8; clear k8)
                    | (go_at_call 21; refine (C21.out _ K8.out).mono ?_; rintro e w9 ⟨rfl, t9, k9⟩; have K9 := hide k9; have T9 := hide t9; have hc9 := HTC.out w9 k9; clear k9 t9)
                    | (go_at_call 22; refine (C22.out _ K9.out).mono ?_; rintro e w10 ⟨ta, tc, rfl, t10, k10, kk10⟩; have K10 := hide k10; have T10 := hide t10; have T9b := hide (T9.out.below kk10); have hc10 := HTC.out w10 k10; clear k10 t10 kk10)
                    | (go_at_call 20; refine (C20.out _ _ _ _ _ K10.out T9b.out T10.out).mono ?_; rintro e w11 ⟨rfl, k11⟩; have K11 := hide k11; have hc11 := HTC.out w11 k11; clear k11))
                  all_goals
                    have HT11 := hide (HT5.out.below K11.out)
                    have HNU11 : Hid (0 < n4 → la = some ⟨lb, 0, none⟩ ∧ Nums w11 lb n4) := fun h0 => by
                      obtain ⟨q1, q2, q3⟩ := HNU5.out h0
                      exact ⟨q1, q2.keep (K11.out.block _ q3)⟩
                    clear C13 C18 C19 C20 C21 C22 HTC hc6 hc7 hc8 hc9 hc10 hc11 T9 T10 T9b K6 K7 K8 K9 K10 K11 HT5 HNU5
                    go_wp2_with fail
                    go_loopw [20] (fun v wq => ∃ k : Nat, k ≤ n4 ∧ v = .int .i64 k ∧ Hid (Kept lb lb w11 wq) ∧ Hid (0 < n4 → la = some ⟨lb, 0, none⟩ ∧ Nums wq lb n4)) (fun v _ => n4 - (intOf v).toNat)
                    case atStart => exact ⟨0, Nat.zero_le _, rfl, Kept.refl _ _ _, HNU11⟩
                    case round =>
                      clear HNU11
                      obtain ⟨k, hk, rfl, HKq, HNq⟩ := hrel
                      by_cases hkn : k < n4
                      · have hd2 : decide ((k : Int) < (n4 : Int)) = true := decide_eq_true (by omega)
                        obtain ⟨q1, q2⟩ := HNq.out (by omega)
                        subst q1
                        obtain ⟨⟨y, hy⟩, hfz⟩ := q2.cell (j := k * 4 + 1) (by omega)
                        have HQ2 := hide q2
                        clear q2 HNq
                        go_wp2_with fail
                        go_roundw
                        case rel => exact ⟨k + 1, by omega, by go_num, HKq.out.set _ _, fun h0 => ⟨by first | trivial | rfl, HQ2.out.set _ _⟩⟩
                        case measure => simp [intOf]; omega
                      · have hd2 : decide ((k : Int) < (n4 : Int)) = false := decide_eq_false (by omega)
                        have HBE : Hid (Both w wr r g r2 g2 L2) := by
                          obtain ⟨p1, p2, p3, p4, p5⟩ := HLB.out
                          have hk' := HKq.out
                          have hT := HT11.out
                          exact ⟨hT.tab.keep (hk'.block r hT.tab.lt.1 (Ne.symm p2) (Ne.symm p2)) (hk'.block g hT.tab.lt.2 (Ne.symm p3) (Ne.symm p3)), (hT.ref.kept (Or.inl rfl) p4 p5 hk').new (Nat.le_refl _), HU.out, hT.bel.trans (hk'.below p1 p1 hT.bel.size), LOW.out.1, LOW.out.2.1, LOW.out.2.2.1, LOW.out.2.2.2⟩
                        go_wp2_with fail
                        go_roundw
                        case rel => exact ⟨i + 1, r, g, L2, by omega, by go_num, rfl, HBE⟩
                        case measure => simp [intOf]; omega
        · as_aux_lemma =>
            have HR0 : Hid (RT wr.heap.size wr r2 g2 L) := HB.out.ref
            have HT0 : Hid (IsTab wr r g L) := HB.out.tab
            have LOW : Hid (w.heap.size ≤ r ∧ w.heap.size ≤ g ∧ w.heap.size ≤ r2 ∧ w.heap.size ≤ g2) := ⟨HB.out.r_, HB.out.g_, HB.out.r2_, HB.out.g2_⟩
            have HU0 : Hid (Uniq L) := HB.out.uniq
            have hsz1 : (wr.alloc (boxA X)).heap.size = wr.heap.size + 1 := by simp
            obtain ⟨v3, w3, ap, ow, bl⟩ := run_appS (own_new37 (wr.alloc (boxA X))) (HS0.out.src.below ((Below.refl _ _).alloc (Nat.le_refl _) (.cells #[] 37))) (by have := HIN.out.2; simp; omega) (by simp)
            rw [List.nil_append] at ow
            rw [hsz1] at ap ow bl
            obtain ⟨oa, oc, ob, rfl, onum, hob0, hob, hom, hoc, hos⟩ := ow.blk HS0.out.src.byte
            have hon := HS0.out.src.hlen
            rw [hon] at ap onum hoc hos
            have kb : Below wr.heap.size wr w3 := (((Below.refl wr.heap.size wr).alloc (Nat.le_refl _) (boxA X)).alloc (by simp) (.cells #[] 37)).trans (bl.mono (by omega))
            have hsz3 : wr.heap.size + 1 < w3.heap.size := by have := bl.size; simp at this; omega
            have hob1 : ob < w3.heap.size := by rcases hob0 with h | h <;> omega
            have H3 : Hid (St w w3 r g r2 g2 ob wr.heap.size L L X) := by
              have hS := HS0.out
              exact ⟨HT0.out.belowS kb, (HR0.out.new (by omega)).below kb, HB.out.bel.trans (kb.mono HB.out.bel.size), (bl.block _ (by omega)).trans (alloc_old _ (alloc_new _ _)), hS.src.keep (fun h0 b o e => by have h1 := hS.old b o h0 e; have h2 := HB.out.bel.size; exact (bl.block b (by omega)).trans (Below.heap_alloc _ _ _ (by simp; omega))) (by simp; omega), hS.old⟩
            have HOB : Hid (w.heap.size ≤ ob ∧ ob ≠ r ∧ ob ≠ g ∧ ob ≠ r2 ∧ ob ≠ g2 ∧ ob ≠ wr.heap.size ∧ ob < w3.heap.size) := by
              have h1 := HB.out.bel.size
              have h2 := HT0.out.lt
              have h3 := HR0.out.lt
              exact ⟨by omega, by omega, by omega, by omega, by omega, by omega, hob1⟩
            obtain ⟨bx, hbx⟩ : ∃ bx, bx = wr.heap.size := ⟨_, rfl⟩
            have AP := hide ap
            have ON : Hid (0 < X.n → oa = some ⟨ob, 0, none⟩ ∧ Nums w3 ob X.n ∧ ob < w3.heap.size) := onum
            have OS := hide hos
            unfold maxLen at hom
            clear ap ow bl onum hob0 hob kb hsz3 hob1 HR0 HT0 hos HAm HB HS0 hsz1
            go_wp2_with (refine wpList_app_run _ rfl _ _ 30 30 rfl (.slice (some ⟨wr.heap.size + 1, 0, none⟩) 0 0) (.slice X.a X.n X.c) rfl rfl AP.out ?_)
            rw [← hbx] at H3 HOB ⊢
            have hnX : Hid (X.n = X.ads.length) := hon.symm
            obtain ⟨n3, hn3⟩ : ∃ n3, n3 = X.n := ⟨_, rfl⟩
            rw [← hn3] at ON OS hoc ⊢
            have HN3 := hide hn3
            clear AP hbx hon hn3
            -- the two Puts
            have HU2 := hide (put_uniq HU0.out X.now X.name X.ads X.ttl)
            have C11 : Hid (∀ wy, Below w3.heap.size w3 wy → Calls Try.prog 11 #[.pointer (some ⟨r, 0, none⟩), .int .i64 X.now, .string X.name, .slice oa n3 oc, .int .i64 X.ttl] wy fun e wz => e = .returned (.int .i64 (code L X.now X.name n3 X.ttl)) ∧ St w wz r g r2 g2 ob bx (put L X.now X.name X.ads X.ttl) L X ∧ (0 < n3 → oa = some ⟨ob, 0, none⟩ ∧ Nums wz ob n3 ∧ ob < wz.heap.size) ∧ SrcA wz oa n3 oc X.ads ∧ w3.heap.size ≤ wz.heap.size) := fun wy k => by
              have hS := H3.out.below k
              have hO := OS.out.below k
              refine (put_at r g L X.now X.name oa n3 oc X.ads X.ttl wy hS.tab hO).mono ?_
              rintro e wz ⟨rfl, hz, kz⟩
              have hs1 := k.size
              have hs2 := kz.size
              have key : 0 < n3 → wz.heap[ob]? = w3.heap[ob]? := fun h0 => (kz.block ob (by have := HOB.out.2.2.2.2.2.2; omega) HOB.out.2.2.1 HOB.out.2.2.1).trans (k.block ob HOB.out.2.2.2.2.2.2)
              refine ⟨rfl, hS.tabKept LOW.out.2.1 kz hz, fun h0 => ⟨(ON.out h0).1, (ON.out h0).2.1.keep (key h0), by have := HOB.out.2.2.2.2.2.2; omega⟩, hO.keep (fun h0 b o e => ?_) kz.size, by omega⟩
              obtain ⟨q1, _, _⟩ := ON.out h0
              rw [q1] at e
              simp only [Option.some.injEq, Addr.mk.injEq, and_true] at e
              obtain ⟨rfl, rfl⟩ := e
              exact kz.block ob (by have := HOB.out.2.2.2.2.2.2; omega) HOB.out.2.2.1 HOB.out.2.2.1
            have C12 : Hid (∀ wy, St w wy r g r2 g2 ob bx (put L X.now X.name X.ads X.ttl) L X → (0 < n3 → oa = some ⟨ob, 0, none⟩ ∧ Nums wy ob n3 ∧ ob < wy.heap.size) → SrcA wy oa n3 oc X.ads → w3.heap.size ≤ wy.heap.size → Calls Try.prog 12 #[.pointer (some ⟨r2, 0, none⟩), .int .i64 X.now, .string X.name, .slice X.a n3 X.c, .int .i64 X.ttl] wy fun e wz => e = .returned (.int .i64 (code L X.now X.name n3 X.ttl)) ∧ St w wz r g r2 g2 ob bx (put L X.now X.name X.ads X.ttl) (put L X.now X.name X.ads X.ttl) X ∧ (0 < n3 → oa = some ⟨ob, 0, none⟩ ∧ Nums wz ob n3 ∧ ob < wz.heap.size) ∧ SrcA wz oa n3 oc X.ads) := fun wy hS hN hO hsz => by
              have hsr := hS.src
              rw [← HN3.out] at hsr
              refine (rput_at ob r2 g2 L X.now X.name X.a n3 X.c X.ads X.ttl wy hS.ref HU0.out hsr (by have := HOB.out.2.2.2.2.2.2; omega)).mono ?_
              rintro e wz ⟨rfl, hz, kz⟩
              have hs2 := kz.size
              have hne := HOB.out.2.2.2.2.1
              refine ⟨rfl, hS.refKept LOW.out.2.2.2 kz hz, fun h0 => ⟨(hN h0).1, (hN h0).2.1.keep (kz.block ob (hN h0).2.2 hne hne), by have := (hN h0).2.2; omega⟩, hO.keep (fun h0 b o e => ?_) kz.size⟩
              obtain ⟨q1, _, q3⟩ := hN h0
              rw [q1] at e
              simp only [Option.some.injEq, Addr.mk.injEq, and_true] at e
              obtain ⟨rfl, rfl⟩ := e
              exact kz.block ob q3 hne hne
            generalize code L X.now X.name n3 X.ttl = C at C11 C12
            generalize put L X.now X.name X.ads X.ttl = L2 at C11 C12 HU2
            have C13 : Hid (∀ wy, St w wy r g r2 g2 ob bx L2 L2 X → SrcA wy oa n3 oc X.ads → Calls Try.prog 13 #[.slice oa n3 oc, .slice X.a n3 X.c] wy fun e wz => e = .returned (.bool true) ∧ St w wz r g r2 g2 ob bx L2 L2 X ∧ Below wy.heap.size wy wz) := fun wy hS hO => by
              have hsr := hS.src
              rw [← HN3.out] at hsr
              refine (same_addrs wy oa X.a n3 oc n3 X.c X.ads hO hsr).mono ?_
              rintro e wz ⟨rfl, kz⟩
              exact ⟨rfl, hS.below kz, kz⟩
            have HCE : Hid (∀ wy LT LR, St w wy r g r2 g2 ob bx LT LR X → wy.cell? ⟨bx, 1, none⟩ = some (.int .i64 X.now) ∧ wy.cell? ⟨bx, 2, none⟩ = some (.int .i64 X.ttl) ∧ wy.cell? ⟨bx, 3, none⟩ = some (.string X.name) ∧ wy.cell? ⟨bx, 4, none⟩ = some (.slice X.a n3 X.c)) := fun wy LT LR h => by
              obtain ⟨q1, q2, q3, q4, _⟩ := h.cells
              rw [← HN3.out] at q4
              exact ⟨q1, q2, q3, q4⟩
            obtain ⟨b1, b2, b3, b4⟩ := HCE.out w3 L L H3.out
            have u0 : (!(C == C)) = false := by simp
            go_wp2_with fail
            go_region_held3 (fun w' => w'.cell? ⟨bx, 1, none⟩ = some (.int .i64 X.now) ∧ w'.cell? ⟨bx, 2, none⟩ = some (.int .i64 X.ttl) ∧ w'.cell? ⟨bx, 3, none⟩ = some (.string X.name) ∧ w'.cell? ⟨bx, 4, none⟩ = some (.slice X.a n3 X.c)) (first | assumption | exact ⟨by assumption, by assumption, by assumption, by assumption⟩ | go_keep) (first
              | (go_at_call 11; refine (C11.out _ (by first | exact (Below.refl _ _).drew | exact Below.refl _ _)).mono ?_; rintro e w4 ⟨rfl, s4, n4, o4, z4⟩; have S4 := hide s4; have N4 := hide n4; have O4 := hide o4; obtain ⟨f41, f42, f43, f44⟩ := HCE.out w4 _ _ s4; clear s4 n4 o4)
              | (go_at_call 12; refine (C12.out _ S4.out N4.out O4.out z4).mono ?_; rintro e w5 ⟨rfl, s5, n5, o5⟩; have S5 := hide s5; have N5 := hide n5; have O5 := hide o5; obtain ⟨f51, f52, f53, f54⟩ := HCE.out w5 _ _ s5; clear s5 n5 o5)
              | (go_at_call 13; refine (C13.out _ S5.out O5.out).mono ?_; rintro e w6 ⟨rfl, s6, k6⟩; have S6 := hide s6; have N6 : Hid (0 < n3 → oa = some ⟨ob, 0, none⟩ ∧ Nums w6 ob n3) := (fun h0 => ⟨(N5.out h0).1, (N5.out h0).2.1.keep (k6.block ob (N5.out h0).2.2)⟩); obtain ⟨f61, f62, f63, f64⟩ := HCE.out w6 _ _ s6; clear s6 k6))
            all_goals
              clear C11 C12 C13 S4 N4 O4 S5 N5 O5 f41 f42 f43 f44 f51 f52 f53 f54 f61 f62 f63 f64 ON OS H3 b1 b2 b3 b4
              go_wp2_with fail
              go_loopw [12] (fun v wq => ∃ k : Nat, k ≤ n3 ∧ v = .int .i64 k ∧ Hid (Kept ob ob w6 wq) ∧ Hid (0 < n3 → oa = some ⟨ob, 0, none⟩ ∧ Nums wq ob n3)) (fun v _ => n3 - (intOf v).toNat)
              case atStart => exact ⟨0, Nat.zero_le _, rfl, Kept.refl _ _ _, N6⟩
              case round =>
                clear N6
                obtain ⟨k, hk, rfl, HKq, HNq⟩ := hrel
                by_cases hkn : k < n3
                · have hd2 : decide ((k : Int) < (n3 : Int)) = true := decide_eq_true (by omega)
                  obtain ⟨q1, q2⟩ := HNq.out (by omega)
                  subst q1
                  obtain ⟨⟨y, hy⟩, hfz⟩ := q2.cell (j := k * 4) (by omega)
                  have HQ2 := hide q2
                  clear q2 HNq
                  go_wp2_with fail
                  go_roundw
                  case rel => exact ⟨k + 1, by omega, by go_num, HKq.out.set _ _, fun h0 => ⟨by first | trivial | rfl, HQ2.out.set _ _⟩⟩
                  case measure => simp [intOf]; omega
                · have hd2 : decide ((k : Int) < (n3 : Int)) = false := decide_eq_false (by omega)
                  have HT : Hid (St w wr r g r2 g2 ob bx L2 L2 X) := S6.out.ownKept HOB.out.1 HOB.out.2.1 HOB.out.2.2.1 HOB.out.2.2.2.1 HOB.out.2.2.2.2.1 HOB.out.2.2.2.2.2.1 HKq.out
                  have HU := HU2
                  obtain ⟨b1, b2, b3, b4, b5⟩ := HT.out.cells
                  clear HKq HNq hd2 HU0 HU2
                  go_wp2_with fail
                  -- the tail
                  have HG := hide (get_at r g L2 X.now X.name wr HT.out.tab)
                  have hGok := hide (getA_ok HT.out.tab.ok X.now X.name)
                  have hGfew := getA_few HT.out.tab.ok X.now X.name
                  have HG2 : Hid (∀ x w', RT x w' r2 g2 L2 → Calls Try.prog 17 #[.pointer (some ⟨r2, 0, none⟩), .int .i64 X.now, .string X.name] w' fun e w'' => ∃ v, e = .returned (.tuple #[v, .int .i64 (getT L2 X.now X.name), .int .i64 (getC L2 X.now X.name)]) ∧ OwnA w'' w'.heap.size v (getA L2 X.now X.name) ∧ Below w'.heap.size w' w'') := fun x w' h => rget_at x r2 g2 L2 X.now X.name w' h HU.out
                  generalize getA L2 X.now X.name = GA at HG HG2 hGok hGfew
                  generalize getT L2 X.now X.name = GT at HG HG2
                  generalize getC L2 X.now X.name = GC at HG HG2
                  refine HG.out.mono ?_
                  rintro e w4 ⟨v, rfl, ho, k4⟩
                  obtain ⟨la, lc, lb, rfl, hnum, _, hlb, hlm, hlc2, hls⟩ := ho.blk hGok.out
                  have HT4 : Hid (St w w4 r g r2 g2 lb bx L2 L2 X) := (⟨HT.out.tab, HT.out.ref.new hlb, HT.out.bel, HT.out.box, HT.out.src, HT.out.old⟩ : St w wr r g r2 g2 lb bx L2 L2 X).below k4
                  have HLB : Hid (w.heap.size ≤ lb ∧ lb ≠ r ∧ lb ≠ g ∧ lb ≠ r2 ∧ lb ≠ g2) := by
                    have h1 := HT.out.bel.size
                    have h2 := HT.out.tab.lt
                    have h3 := HT.out.ref.lt
                    exact ⟨by omega, by omega, by omega, by omega, by omega⟩
                  have HNU := hide hnum
                  have HLS := hide hls
                  obtain ⟨n4, hn4⟩ : ∃ n4, n4 = GA.length := ⟨_, rfl⟩
                  rw [← hn4] at HNU HLS hGfew hlc2 ⊢
                  obtain ⟨b1, b2, b3, b4, b5⟩ := HT4.out.cells
                  unfold maxLen at hlm
                  have HN4 := hide hn4
                  clear ho k4 hnum hlb hls HT HG hn4
                  go_wp2_with fail
                  refine (HG2.out lb w4 HT4.out.ref).mono ?_
                  rintro e w5 ⟨v5, rfl, ho, k5⟩
                  obtain ⟨ma, mc, mb, rfl, _, _, _, _, _, hms⟩ := ho.blk hGok.out
                  have HT5 := hide (HT4.out.below k5)
                  have HLS5 := hide (HLS.out.below k5)
                  have HMS5 := hide hms
                  have HNU5 : Hid (0 < n4 → la = some ⟨lb, 0, none⟩ ∧ Nums w5 lb n4 ∧ lb < w5.heap.size) := fun h0 => by
                    obtain ⟨q1, q2, q3⟩ := HNU.out h0
                    exact ⟨q1, q2.keep (k5.block _ q3), by have := k5.size; omega⟩
                  obtain ⟨b1, b2, b3, b4, b5⟩ := HT5.out.cells
                  rw [← HN4.out] at HMS5 ⊢
                  clear ho k5 hms HT4 HLS HNU HG2
                  obtain ⟨NL, hNL⟩ : ∃ NL, NL = L2.length := ⟨_, rfl⟩
                  have C13 : Hid (∀ wy, Below w5.heap.size w5 wy → Calls Try.prog 13 #[.slice la n4 lc, .slice ma n4 mc] wy fun e wz => e = .returned (.bool true) ∧ Below w5.heap.size w5 wz) := fun wy k => by
                    refine (same_addrs wy la ma n4 lc n4 mc GA (HLS5.out.below k) (HMS5.out.below k)).mono ?_
                    rintro e wz ⟨rfl, kz⟩
                    exact ⟨rfl, k.trans (kz.mono k.size)⟩
                  have C18 : Hid (∀ wy, Below w5.heap.size w5 wy → Calls Try.prog 18 #[.pointer (some ⟨r, 0, none⟩), .int .i64 X.now] wy fun e wz => e = .returned (.int .i64 (used L2 X.now : Nat)) ∧ Below w5.heap.size w5 wz) := fun wy k => by
                    refine (used_at r g L2 X.now wy (HT5.out.below k).tab).mono ?_
                    rintro e wz ⟨rfl, kz⟩
                    exact ⟨rfl, k.trans (kz.mono k.size)⟩
                  have C19 : Hid (∀ wy, Below w5.heap.size w5 wy → Calls Try.prog 19 #[.pointer (some ⟨r2, 0, none⟩), .int .i64 X.now] wy fun e wz => e = .returned (.int .i64 (used L2 X.now : Nat)) ∧ Below w5.heap.size w5 wz) := fun wy k => by
                    refine (rused_at r2 g2 L2.length L2 X.now wy (HT5.out.below k).ref.reads).mono ?_
                    rintro e wz ⟨rfl, kz⟩
                    exact ⟨rfl, k.trans (kz.mono k.size)⟩
                  have C21 : Hid (∀ wy, Below w5.heap.size w5 wy → Calls Try.prog 21 #[.pointer (some ⟨r, 0, none⟩)] wy fun e wz => e = .returned (.slice (some ⟨wy.heap.size, 0, none⟩) NL NL) ∧ SrcT wz (some ⟨wy.heap.size, 0, none⟩) NL NL (nms L2) ∧ Below w5.heap.size w5 wz) := fun wy k => by
                    have hT := (HT5.out.below k).tab
                    refine (listT_at r g L2 wy hT).mono ?_
                    rintro e wz ⟨rfl, hz, kz⟩
                    rw [← hNL]
                    exact ⟨rfl, SrcT.of_block hz (by simp [nms]; exact hNL.symm) (by rw [hNL]; have := hT.max; unfold maxLen; omega), k.trans (kz.mono k.size)⟩
                  have C22 : Hid (∀ wy, Below w5.heap.size w5 wy → Calls Try.prog 22 #[.pointer (some ⟨r2, 0, none⟩)] wy fun e wz => ∃ ta tc, e = .returned (.slice ta NL tc) ∧ SrcT wz ta NL tc (nms L2) ∧ Below w5.heap.size w5 wz ∧ Below wy.heap.size wy wz) := fun wy k => by
                    refine (rlist_at lb r2 g2 L2 wy (HT5.out.below k).ref).mono ?_
                    rintro e wz ⟨ta, tc, rfl, hz, kz⟩
                    rw [← hNL]
                    rw [← hNL] at hz
                    exact ⟨ta, tc, rfl, hz, k.trans (kz.mono k.size), kz⟩
                  have C20 : Hid (∀ wy a1 c1 a2 c2, Below w5.heap.size w5 wy → SrcT wy a1 NL c1 (nms L2) → SrcT wy a2 NL c2 (nms L2) → Calls Try.prog 20 #[.slice a1 NL c1, .slice a2 NL c2] wy fun e wz => e = .returned (.bool true) ∧ Below w5.heap.size w5 wz) := fun wy a1 c1 a2 c2 k h1 h2 => by
                    refine (same_texts wy a1 a2 NL c1 NL c2 (nms L2) h1 h2).mono ?_
                    rintro e wz ⟨rfl, kz⟩
                    exact ⟨rfl, k.trans (kz.mono k.size)⟩
                  generalize used L2 X.now = U at C18 C19
                  have HTC : Hid (∀ wy, Below w5.heap.size w5 wy → wy.cell? ⟨bx, 1, none⟩ = some (.int .i64 X.now)) := fun wy k => (HT5.out.below k).cells.1
                  have u1 : (!(GT == GT)) = false := by simp
                  have u2 : (!(GC == GC)) = false := by simp
                  have u3 : (!(((U : Nat) : Int) == ((U : Nat) : Int))) = false := by simp
                  clear HLS5 HMS5 hNL
                  go_wp2_with fail
                  go_region_held3 (fun w' => w'.cell? ⟨bx, 1, none⟩ = some (.int .i64 X.now)) (first | assumption | go_keep) (first
                    | (go_at_call 13; refine (C13.out _ (by first | exact (Below.refl _ _).drew | exact Below.refl _ _)).mono ?_; rintro e w6 ⟨rfl, k6⟩; have K6 := hide k6; have hc6 := HTC.out w6 k6; clear k6)
                    | (go_at_call 18; refine (C18.out _ K6.out).mono ?_; rintro e w7 ⟨rfl, k7⟩; have K7 := hide k7; have hc7 := HTC.out w7 k7; clear k7)
                    | (go_at_call 19; refine (C19.out _ K7.out).mono ?_; rintro e w8 ⟨rfl, k8⟩; have K8 := hide k8; have hc8 := HTC.out w8 k8; clear k8)
                    | (go_at_call 21; refine (C21.out _ K8.out).mono ?_; rintro e w9 ⟨rfl, t9, k9⟩; have K9 := hide k9; have T9 := hide t9; have hc9 := HTC.out w9 k9; clear k9 t9)
                    | (go_at_call 22; refine (C22.out _ K9.out).mono ?_; rintro e w10 ⟨ta, tc, rfl, t10, k10, kk10⟩; have K10 := hide k10; have T10 := hide t10; have T9b := hide (T9.out.below kk10); have hc10 := HTC.out w10 k10; clear k10 t10 kk10)
                    | (go_at_call 20; refine (C20.out _ _ _ _ _ K10.out T9b.out T10.out).mono ?_; rintro e w11 ⟨rfl, k11⟩; have K11 := hide k11; have hc11 := HTC.out w11 k11; clear k11))
                  all_goals
                    have HT11 := hide (HT5.out.below K11.out)
                    have HNU11 : Hid (0 < n4 → la = some ⟨lb, 0, none⟩ ∧ Nums w11 lb n4) := fun h0 => by
                      obtain ⟨q1, q2, q3⟩ := HNU5.out h0
                      exact ⟨q1, q2.keep (K11.out.block _ q3)⟩
                    clear C13 C18 C19 C20 C21 C22 HTC hc6 hc7 hc8 hc9 hc10 hc11 T9 T10 T9b K6 K7 K8 K9 K10 K11 HT5 HNU5
                    go_wp2_with fail
                    go_loopw [20] (fun v wq => ∃ k : Nat, k ≤ n4 ∧ v = .int .i64 k ∧ Hid (Kept lb lb w11 wq) ∧ Hid (0 < n4 → la = some ⟨lb, 0, none⟩ ∧ Nums wq lb n4)) (fun v _ => n4 - (intOf v).toNat)
                    case atStart => exact ⟨0, Nat.zero_le _, rfl, Kept.refl _ _ _, HNU11⟩
                    case round =>
                      clear HNU11
                      obtain ⟨k, hk, rfl, HKq, HNq⟩ := hrel
                      by_cases hkn : k < n4
                      · have hd2 : decide ((k : Int) < (n4 : Int)) = true := decide_eq_true (by omega)
                        obtain ⟨q1, q2⟩ := HNq.out (by omega)
                        subst q1
                        obtain ⟨⟨y, hy⟩, hfz⟩ := q2.cell (j := k * 4 + 1) (by omega)
                        have HQ2 := hide q2
                        clear q2 HNq
                        go_wp2_with fail
                        go_roundw
                        case rel => exact ⟨k + 1, by omega, by go_num, HKq.out.set _ _, fun h0 => ⟨by first | trivial | rfl, HQ2.out.set _ _⟩⟩
                        case measure => simp [intOf]; omega
                      · have hd2 : decide ((k : Int) < (n4 : Int)) = false := decide_eq_false (by omega)
                        have HBE : Hid (Both w wr r g r2 g2 L2) := by
                          obtain ⟨p1, p2, p3, p4, p5⟩ := HLB.out
                          have hk' := HKq.out
                          have hT := HT11.out
                          exact ⟨hT.tab.keep (hk'.block r hT.tab.lt.1 (Ne.symm p2) (Ne.symm p2)) (hk'.block g hT.tab.lt.2 (Ne.symm p3) (Ne.symm p3)), (hT.ref.kept (Or.inl rfl) p4 p5 hk').new (Nat.le_refl _), HU.out, hT.bel.trans (hk'.below p1 p1 hT.bel.size), LOW.out.1, LOW.out.2.1, LOW.out.2.2.1, LOW.out.2.2.2⟩
                        go_wp2_with fail
                        go_roundw
                        case rel => exact ⟨i + 1, r, g, L2, by omega, by go_num, rfl, HBE⟩
                        case measure => simp [intOf]; omega
      · have hd : decide ((i : Int) < (len : Int)) = false := decide_eq_false (by omega)
        have HBel := hide HB.out.bel
        go_wp2_with fail
        refine (works_at wr).mono ?_
        rintro e w3 ⟨rfl, k3⟩
        have K3 := hide (HBel.out.trans (k3.mono HBel.out.size))
        clear k3
        go_wp2_with fail
        go_ret
        exact ⟨rfl, K3.out⟩
end Go.Proofs.Ytmolcipbopaniaa
