/-
  A store answers whatever calls as the reference does, and so does a clone: what the statement does; conditions as each theorem has them.
-/
import Derived.Test.YtcihkdmndpdmoaaP
import Derived.Test.YtcihkdmndpdmoaaT
set_option linter.unusedSimpArgs false
set_option linter.unusedVariables false
namespace Go.Proofs.Ytcihkdmndpdmoaa
open Go.RowKit
/-- n bytes in block lb that may be written. -/
def Numo (w : World) (a : Option Addr) (n lb : Nat) : Prop := 0 < n → ∃ o, a = some ⟨lb, o, none⟩ ∧ lb < w.heap.size ∧ ∀ j, j < n → (∃ y, w.cell? ⟨lb, o + j, none⟩ = some (.int .u8 y)) ∧ w.frozen? ⟨lb, o + j, none⟩ = false
theorem Numo.keep {w w' : World} {a : Option Addr} {n lb : Nat} (h : Numo w a n lb) (k : lb < w.heap.size → w'.heap[lb]? = w.heap[lb]?) (hs : w.heap.size ≤ w'.heap.size) : Numo w' a n lb := fun h0 => by
  obtain ⟨o, e, hl, hc⟩ := h h0
  refine ⟨o, e, by omega, fun j hj => ?_⟩
  obtain ⟨⟨y, hy⟩, hf⟩ := hc j hj
  refine ⟨⟨y, (World.cell?_of_block (k hl)).trans hy⟩, ?_⟩
  simp only [World.frozen?, k hl] at hf ⊢
  exact hf
theorem Numo.set {w : World} {a : Option Addr} {n lb : Nat} (h : Numo w a n lb) (o k : Nat) (z : Int) : Numo (w.setCell ⟨lb, o + k, none⟩ (.int .u8 z)) a n lb := fun h0 => by
  obtain ⟨o', e, hl, hc⟩ := h h0
  refine ⟨o', e, by simpa using hl, fun j hj => ?_⟩
  obtain ⟨⟨y, hy⟩, hf⟩ := hc j hj
  refine ⟨?_, by rw [World.frozen?_setCell]; exact hf⟩
  by_cases hjk : o + k = o' + j
  · rw [hjk]
    exact ⟨z, World.cell?_setCell_same (h := hy) ..⟩
  · exact ⟨y, (World.cell?_setCell_other (h := fun e => hjk (congrArg Addr.off e)) ..).trans hy⟩
theorem Src.numo {w : World} {a : Option Addr} {n c : Nat} {l : List Nat} (h : Src w a n c l) {lb : Nat} (hb : 0 < n → ∀ b o, a = some ⟨b, o, none⟩ → b = lb ∧ ∀ j, j < n → w.frozen? ⟨b, o + j, none⟩ = false) : Numo w a n lb := fun h0 => by
  obtain ⟨b, o, e, hl, hc⟩ := h.lies h0
  obtain ⟨rfl, hf⟩ := hb h0 b o e
  exact ⟨o, e, hl, fun j hj => ⟨⟨_, hc j hj⟩, hf j hj⟩⟩
theorem pick (ya : Option Addr) (bx : Nat) : ∃ lb, (∀ b o, ya = some ⟨b, o, none⟩ → b = lb) ∧ (lb = bx ∨ ∃ o, ya = some ⟨lb, o, none⟩) := by
  cases ya with
  | none => exact ⟨bx, fun b o e => (by cases e), Or.inl rfl⟩
  | some x =>
    obtain ⟨b, o, sp⟩ := x
    cases sp with
    | none => exact ⟨b, fun b' o' e => (by simp at e; exact e.1.symm), Or.inr ⟨o, rfl⟩⟩
    | some y => exact ⟨bx, fun b' o' e => (by simp at e), Or.inl rfl⟩
theorem getB_few {K : Nat} {L : List Sl} {h : Nat} (i : Inv K L h) (now : Int) (key : ByteArray) : (getB L now key).size ≤ 65536 := by
  unfold getB
  cases e : got L now key with
  | none => exact Nat.zero_le _
  | some s => exact Nat.le_trans (i.ok _ _ (got_spec e).2.1).few i.keep
theorem RT.new' {x x' : Nat} {w : World} {r g K h : Nat} {L : List Sl} (t : RT x w r g K L h) (hx : w.heap.size ≤ x') : RT x' w r g K L h := t.new hx
/-- Where a round stands: the store and the reference's. -/
structure Both (w wr : World) (r g r2 g2 K : Nat) (L : List Sl) (h : Nat) : Prop where
  tab : IsTab wr r g K L h
  ref : RT wr.heap.size wr r2 g2 K L h
  bel : Below w.heap.size w wr
  r_ : w.heap.size ≤ r
  g_ : w.heap.size ≤ g
  r2_ : w.heap.size ≤ r2
  g2_ : w.heap.size ≤ g2
theorem Both.below {w wr wy : World} {r g r2 g2 K h : Nat} {L : List Sl} (t : Both w wr r g r2 g2 K L h) (k : Below wr.heap.size wr wy) : Both w wy r g r2 g2 K L h :=
  ⟨t.tab.below k, (t.ref.below k).new' (Nat.le_refl _), t.bel.trans (k.mono t.bel.size), t.r_, t.g_, t.r2_, t.g2_⟩
abbrev boxA (X : Ac) : Obj := .cells #[.int .i64 X.k, .int .i64 X.now, .int .i64 X.age, .string X.key, .slice X.a X.n X.c] 32
/-- Within a round: the call that is played lies in block bx. -/
structure St (w wx : World) (r g r2 g2 K x bx : Nat) (LT : List Sl) (hT : Nat) (LR : List Sl) (hR : Nat) (X : Ac) : Prop where
  tab : IsTab wx r g K LT hT
  ref : RT x wx r2 g2 K LR hR
  bel : Below w.heap.size w wx
  box : wx.heap[bx]? = some (boxA X)
  src : Src wx X.a X.n X.c X.l
  old : ∀ b o, 0 < X.n → X.a = some ⟨b, o, none⟩ → b < w.heap.size
theorem St.below {w wx wy : World} {r g r2 g2 K x bx : Nat} {LT : List Sl} {hT : Nat} {LR : List Sl} {hR : Nat} {X : Ac} (h : St w wx r g r2 g2 K x bx LT hT LR hR X) (k : Below wx.heap.size wx wy) : St w wy r g r2 g2 K x bx LT hT LR hR X :=
  ⟨h.tab.below k, h.ref.below k, h.bel.trans (k.mono h.bel.size), (k.block _ (lt_of_some h.box)).trans h.box, h.src.below k, h.old⟩
theorem St.cells {w wx : World} {r g r2 g2 K x bx : Nat} {LT : List Sl} {hT : Nat} {LR : List Sl} {hR : Nat} {X : Ac} (h : St w wx r g r2 g2 K x bx LT hT LR hR X) : wx.cell? ⟨bx, 1, none⟩ = some (.int .i64 X.now) ∧ wx.cell? ⟨bx, 2, none⟩ = some (.int .i64 X.age) ∧ wx.cell? ⟨bx, 3, none⟩ = some (.string X.key) ∧ wx.cell? ⟨bx, 4, none⟩ = some (.slice X.a X.n X.c) ∧ bx < wx.heap.size := by
  have := h.box
  exact ⟨by simp [World.cell?, this], by simp [World.cell?, this], by simp [World.cell?, this], by simp [World.cell?, this], lt_of_some this⟩
theorem types_ne {w : World} {a b : Nat} {c d : Array Value} {s t : TypeId} (h1 : w.heap[a]? = some (.cells c s)) (h2 : w.heap[b]? = some (.cells d t)) (h : s ≠ t) : a ≠ b := by
  intro e; subst e
  rw [h1] at h2
  simp at h2
  exact h h2.2
/-- No two of the five blocks are one. -/
theorem St.apart {w wx : World} {r g r2 g2 K x bx : Nat} {LT : List Sl} {hT : Nat} {LR : List Sl} {hR : Nat} {X : Ac} (h : St w wx r g r2 g2 K x bx LT hT LR hR X) : r ≠ r2 ∧ r ≠ g2 ∧ g ≠ r2 ∧ g ≠ g2 ∧ bx ≠ r ∧ bx ≠ g ∧ bx ≠ r2 ∧ bx ≠ g2 := by
  have e1 : wx.heap[g]? = some (.cells (flat LT).toArray 62) := h.tab.row
  have e2 := h.tab.head
  unfold thd at e2
  have e3 := h.ref.head
  unfold rhd at e3
  obtain ⟨V, e4, _⟩ := h.ref.body
  have e5 := h.box
  exact ⟨types_ne e2 e3 (by decide), types_ne e2 e4 (by decide), types_ne e1 e3 (by decide), types_ne e1 e4 (by decide), types_ne e5 e2 (by decide), types_ne e5 e1 (by decide), types_ne e5 e3 (by decide), types_ne e5 e4 (by decide)⟩
/-- The store's own slots were written. -/
theorem St.tabKept {w wx wy : World} {r g r2 g2 K x bx : Nat} {LT : List Sl} {hT : Nat} {LR : List Sl} {hR : Nat} {LT2 : List Sl} {hT2 : Nat} {X : Ac} (h : St w wx r g r2 g2 K x bx LT hT LR hR X) (hr : w.heap.size ≤ r) (hg : w.heap.size ≤ g) (k : Kept r g wx wy) (hI : IsTab wy r g K LT2 hT2) : St w wy r g r2 g2 K x bx LT2 hT2 LR hR X := by
  obtain ⟨n1, n2, n3, n4, n5, n6, n7, n8⟩ := h.apart
  have e1 : wx.heap[g]? = some (.cells (flat LT).toArray 62) := h.tab.row
  have e2 := h.tab.head
  unfold thd at e2
  obtain ⟨V, e4, hV⟩ := h.ref.body
  refine ⟨hI, ⟨(k.block r2 h.ref.lt.1 n1.symm n3.symm).trans h.ref.head, h.ref.inv, V, (k.block g2 h.ref.lt.2 n2.symm n4.symm).trans e4, fun i hi => ⟨(hV i hi).1.keep fun y hy => ?_, (hV i hi).2⟩⟩, h.bel.trans (k.below hr hg h.bel.size), (k.block bx (lt_of_some h.box) n5 n6).trans h.box, h.src.keep (fun h0 b o e => k.block b (h.src.lt h0 e) (by have := h.old b o h0 e; omega) (by have := h.old b o h0 e; omega)) k.size, h.old⟩
  obtain ⟨_, cur, hh⟩ := (hV i hi).1.block hy
  exact k.block y (lt_of_some hh) (types_ne hh e2 (by decide)) (types_ne hh e1 (by decide))
/-- The reference's entries were written. -/
theorem St.refKept {w wx wy : World} {r g r2 g2 K x bx : Nat} {LT : List Sl} {hT : Nat} {LR : List Sl} {hR : Nat} {LR2 : List Sl} {hR2 : Nat} {X : Ac} (h : St w wx r g r2 g2 K x bx LT hT LR hR X) (hr : w.heap.size ≤ r2) (hg : w.heap.size ≤ g2) (k : Kept r2 g2 wx wy) (hI : RT x wy r2 g2 K LR2 hR2) : St w wy r g r2 g2 K x bx LT hT LR2 hR2 X := by
  obtain ⟨n1, n2, n3, n4, n5, n6, n7, n8⟩ := h.apart
  exact ⟨h.tab.keep (k.block r h.tab.lt.1 n1 n2) (k.block g h.tab.lt.2 n3 n4), hI, h.bel.trans (k.below hr hg h.bel.size), (k.block bx (lt_of_some h.box) n7 n8).trans h.box, h.src.keep (fun h0 b o e => k.block b (h.src.lt h0 e) (by have := h.old b o h0 e; omega) (by have := h.old b o h0 e; omega)) k.size, h.old⟩
/-- Within a Put: the round's own bytes beside it. -/
structure Pw (w wy : World) (r g r2 g2 K lb bx : Nat) (LT : List Sl) (hT : Nat) (LR : List Sl) (hR : Nat) (X : Ac) (ya : Option Addr) (yc : Nat) : Prop where
  st : St w wy r g r2 g2 K lb bx LT hT LR hR X
  own : Src wy ya X.n yc X.l
  num : Numo wy ya X.n lb
  lt : lb < wy.heap.size
theorem Pw.kept {w wy wz : World} {r g r2 g2 K lb bx : Nat} {LT : List Sl} {hT : Nat} {LR : List Sl} {hR : Nat} {LT2 : List Sl} {hT2 : Nat} {LR2 : List Sl} {hR2 : Nat} {X : Ac} {ya : Option Addr} {yc p q : Nat} (h : Pw w wy r g r2 g2 K lb bx LT hT LR hR X ya yc) (hl : ∀ b o, ya = some ⟨b, o, none⟩ → b = lb) (k : Kept p q wy wz) (h1 : lb ≠ p) (h2 : lb ≠ q) (hS : St w wz r g r2 g2 K lb bx LT2 hT2 LR2 hR2 X) : Pw w wz r g r2 g2 K lb bx LT2 hT2 LR2 hR2 X ya yc :=
  ⟨hS, h.own.keep (fun h0 b o e => k.block b (h.own.lt h0 e) (by rw [hl b o e]; exact h1) (by rw [hl b o e]; exact h2)) k.size, h.num.keep (fun hl => k.block lb hl h1 h2) k.size, by have := h.lt; have := k.size; omega⟩
theorem Pw.below {w wy wz : World} {r g r2 g2 K lb bx : Nat} {LT : List Sl} {hT : Nat} {LR : List Sl} {hR : Nat} {X : Ac} {ya : Option Addr} {yc : Nat} (h : Pw w wy r g r2 g2 K lb bx LT hT LR hR X ya yc) (k : Below wy.heap.size wy wz) : Pw w wz r g r2 g2 K lb bx LT hT LR hR X ya yc :=
  ⟨h.st.below k, h.own.below k, h.num.keep (fun hl => k.block lb hl) k.size, by have := h.lt; have := k.size; omega⟩
/-- Bytes of the round's own were written. -/
theorem St.both {w wx wy : World} {r g r2 g2 K x bx : Nat} {LT : List Sl} {hT : Nat} {X : Ac} (h : St w wx r g r2 g2 K x bx LT hT LT hT X) (hx : w.heap.size ≤ x) (n1 : x ≠ r) (n2 : x ≠ g) (n3 : x ≠ r2) (n4 : x ≠ g2) (k : Kept x x wx wy) (l1 : w.heap.size ≤ r) (l2 : w.heap.size ≤ g) (l3 : w.heap.size ≤ r2) (l4 : w.heap.size ≤ g2) : Both w wy r g r2 g2 K LT hT :=
  ⟨h.tab.keep (k.block r h.tab.lt.1 n1.symm n1.symm) (k.block g h.tab.lt.2 n2.symm n2.symm), (h.ref.kept (Or.inl rfl) n3 n4 k).new' (Nat.le_refl _), h.bel.trans (k.below hx hx h.bel.size), l1, l2, l3, l4⟩
set_option maxRecDepth 100000 in
set_option maxHeartbeats 8000000 in
theorem plays_walk (s k0 : Int) (a : Option Addr) (len cap : Nat) (f : Nat → Ac) (w : World) (hA : IsActs w a len cap f) : Calls Try.prog 3 #[.int .i64 s, .int .i64 k0, .slice a len cap] w fun e w' => e = .returned (.bool true) ∧ Below w.heap.size w w' := by
  obtain ⟨hlc, hcm, hI⟩ := hA
  have HA := hide hI
  clear hI
  by_cases hs : badNew s k0
  · have HN := fun w' => hide (new_bad s k0 w' hs)
    have HR := fun w' => hide (rnew_bad s k0 w' hs)
    clear hs
    go_enter Try.func3, Try.ntmps3
    go_wp2_with fail
    refine (HN _).out.mono ?_
    rintro e w1 ⟨rfl, rfl⟩
    go_wp2_with fail
    refine (HR _).out.mono ?_
    rintro e w1 ⟨rfl, rfl⟩
    go_wp2_with fail
    go_ret
    exact ⟨rfl, Below.refl _ _⟩
  · unfold badNew at hs
    obtain ⟨N, hN, rfl⟩ : ∃ N : Nat, N ≤ 4096 ∧ s = N := ⟨s.toNat, by omega, by omega⟩
    obtain ⟨K, hK, rfl⟩ : ∃ K : Nat, K ≤ 65536 ∧ k0 = K := ⟨k0.toNat, by omega, by omega⟩
    have hNK : N * K ≤ 4194304 := by
      have : ¬ 4194304 < (N : Int) * (K : Int) := fun e => hs (Or.inr (Or.inr (Or.inr (Or.inr e))))
      rw [← Int.natCast_mul] at this
      omega
    have HNW := fun w' => hide (new_good N K w' hN hK hNK)
    have HRW := fun w' => hide (rnew_good N K 0 w' hN hK hNK)
    clear hs hNK
    go_enter Try.func3, Try.ntmps3
    go_wp2_with fail
    refine (HNW _).out.mono ?_
    rintro e w1 ⟨rfl, h1, k1⟩
    have H1 := hide h1
    have K1 := hide k1
    clear h1 k1
    go_wp2_with fail
    refine (HRW _).out.mono ?_
    rintro e w2 ⟨rfl, h2, k2⟩
    have HB : Hid (Both w w2 (w.heap.size + 1) w.heap.size (w1.heap.size + 1) w1.heap.size K (List.replicate N zeroS) 0) := ⟨H1.out.below k2, h2.new (Nat.le_refl _), K1.out.trans (k2.mono K1.out.size), by omega, by omega, by have := K1.out.size; omega, K1.out.size⟩
    clear h2 k2 H1 K1 HNW HRW
    obtain ⟨r, hr⟩ : ∃ r, r = w.heap.size + 1 := ⟨_, rfl⟩
    obtain ⟨g, hg⟩ : ∃ g, g = w.heap.size := ⟨_, rfl⟩
    obtain ⟨r2, hr2⟩ : ∃ r2, r2 = w1.heap.size + 1 := ⟨_, rfl⟩
    obtain ⟨g2, hg2⟩ : ∃ g2, g2 = w1.heap.size := ⟨_, rfl⟩
    have HB' : Hid (Both w w2 r g r2 g2 K (List.replicate N zeroS) 0) := by rw [hr, hg, hr2, hg2]; exact HB
    rw [← hr, ← hr2]
    clear HB hr hg hr2 hg2
    go_wp2_with fail
    go_loopw [7, 11] (fun t v wr => ∃ (i r g : Nat) (L : List Sl) (h : Nat), i ≤ len ∧ v = .int .i64 i ∧ t = .pointer (some ⟨r, 0, none⟩) ∧ Hid (Both w wr r g r2 g2 K L h)) (fun _ v _ => len - (intOf v).toNat)
    case atStart => exact ⟨0, r, g, _, 0, Nat.zero_le _, rfl, rfl, HB'⟩
    case round =>
      clear HB'
      obtain ⟨i, r, g, L, h, hi, rfl, rfl, HB⟩ := hrel
      by_cases hil : i < len
      · have hd : decide ((i : Int) < (len : Int)) = true := decide_eq_true (by omega)
        have hold := (HA.out (by omega))
        obtain ⟨b, o, rfl, hb, hxs⟩ := hold
        have hX := (hxs i hil)
        have hX2 := hX.below HB.out.bel hb
        obtain ⟨X, hXX⟩ : ∃ X, X = f i := ⟨_, rfl⟩
        rw [← hXX] at hX hX2
        have hS0 : St w (wr.alloc (boxA X)) r g r2 g2 K wr.heap.size wr.heap.size L h L h X := by
          have k := (Below.refl wr.heap.size wr).alloc (Nat.le_refl _) (boxA X)
          exact ⟨HB.out.tab.below k, HB.out.ref.below k, HB.out.bel.trans (k.mono HB.out.bel.size), alloc_new _ _, hX2.src.below k, fun b o h0 e => hX.src.lt h0 e⟩
        have HS0 := hide hS0
        have HIN : Hid ((-9223372036854775808 ≤ X.now ∧ X.now ≤ 9223372036854775807) ∧ X.n ≤ 140737488351232) := ⟨hX.inN, hX.len⟩
        obtain ⟨e0, e1, e2, e3, e4, _, _, _, _⟩ := hX2
        clear hS0 hX hxs hXX
        have HAm := hide (fun w' => among X.k 6 (by omega) (by omega) w')
        go_wp2_with fail
        refine (HAm.out _).mono ?_
        rintro e w3 ⟨kk, hkk, rfl, rfl⟩
        clear e0 e1 e2 e3 e4
        obtain ⟨wt, hwt⟩ : ∃ wt, wt = wr.alloc (boxA X) := ⟨_, rfl⟩
        have HT := HS0
        rw [← hwt] at HT
        unfold boxA at hwt
        rw [← hwt]
        have LOW : Hid (w.heap.size ≤ r ∧ w.heap.size ≤ g ∧ w.heap.size ≤ r2 ∧ w.heap.size ≤ g2) := ⟨HB.out.r_, HB.out.g_, HB.out.r2_, HB.out.g2_⟩
        have HBX : Hid (wt.heap.size = wr.heap.size + 1) := by show _ = _; rw [hwt]; simp
        obtain ⟨bx, hbx⟩ : ∃ bx, bx = wr.heap.size := ⟨_, rfl⟩
        rw [← hbx] at HT HBX ⊢
        have HWB : Hid (w.heap.size ≤ bx) := by show w.heap.size ≤ bx; rw [hbx]; exact HB.out.bel.size
        obtain ⟨b1, b2, b3, b4, b5⟩ := HT.out.cells
        clear hwt hbx HB HS0 HAm
        have key : kk = 4 ∨ kk = 5 ∨ kk = 2 ∨ kk = 3 ∨ kk = 0 ∨ kk = 1 := by omega
        clear hkk
        rcases key with rfl | rfl | rfl | rfl | rfl | rfl
        · as_aux_lemma =>
            have HD1 : Hid (∀ wy, Below wt.heap.size wt wy → Calls Try.prog 18 #[.pointer (some ⟨r, 0, none⟩), .string X.key] wy fun e wz => e = .returned (.bool (isIn L X.key)) ∧ St w wz r g r2 g2 K bx bx (dropL L X.key) h L h X) := fun wy k => by
              have hS := HT.out.below k
              refine (drop_at r g K h L X.key wy hS.tab).mono ?_
              rintro e wz ⟨rfl, tz, kz⟩
              exact ⟨rfl, hS.tabKept LOW.out.1 LOW.out.2.1 (kz.wide (Or.inr rfl)) tz⟩
            have HD2 : Hid (∀ wy, St w wy r g r2 g2 K bx bx (dropL L X.key) h L h X → Calls Try.prog 19 #[.pointer (some ⟨r2, 0, none⟩), .string X.key] wy fun e wz => e = .returned (.bool (isIn L X.key)) ∧ St w wz r g r2 g2 K bx bx (dropL L X.key) h (dropL L X.key) h X) := fun wy hS => by
              refine (rdrop_at bx r2 g2 K h L X.key wy hS.ref).mono ?_
              rintro e wz ⟨rfl, tz, kz⟩
              exact ⟨rfl, hS.refKept LOW.out.2.2.1 LOW.out.2.2.2 (kz.wide (Or.inr rfl)) tz⟩
            generalize isIn L X.key = BI at HD1 HD2
            generalize dropL L X.key = L2 at HD1 HD2
            have u1 : (BI == BI) = true := by simp
            go_wp2_with fail
            go_region_held3 (fun w' => w'.cell? ⟨bx, 3, none⟩ = some (.string X.key)) (first | assumption | go_keep) (first
              | (go_at_call 19; refine (HD2.out _ S4.out).mono ?_; rintro e w5 ⟨rfl, s5⟩; have S5 := hide s5; have hd5 := s5.cells.2.2.1; clear s5)
              | (go_at_call 18; refine (HD1.out _ (by first | exact (Below.refl _ _).drew | exact Below.refl _ _)).mono ?_; rintro e w4 ⟨rfl, s4⟩; have S4 := hide s4; have hd4 := s4.cells.2.2.1; clear s4))
            all_goals
              have HQ : Hid (Both w w5 r g r2 g2 K L2 h) := ⟨S5.out.tab, S5.out.ref.new (Nat.le_refl _), S5.out.bel, LOW.out.1, LOW.out.2.1, LOW.out.2.2.1, LOW.out.2.2.2⟩
              clear HD1 HD2 S4 S5 hd4 hd5 b1 b2 b3 b4 b5 HT u1
              obtain ⟨NL, hNL⟩ : ∃ NL, NL = L2.length := ⟨_, rfl⟩
              have C21 : Hid (∀ wy, Below w5.heap.size w5 wy → Calls Try.prog 21 #[.pointer (some ⟨r, 0, none⟩)] wy fun e wz => e = .returned (.int .i64 (used L2 : Nat)) ∧ Below w5.heap.size w5 wz) := fun wy k => by
                refine (used_at r g K h L2 wy (HQ.out.below k).tab).mono ?_
                rintro e wz ⟨rfl, kz⟩
                exact ⟨rfl, k.trans (kz.mono k.size)⟩
              have C22 : Hid (∀ wy, Below w5.heap.size w5 wy → Calls Try.prog 22 #[.pointer (some ⟨r2, 0, none⟩)] wy fun e wz => e = .returned (.int .i64 (used L2 : Nat)) ∧ Below w5.heap.size w5 wz) := fun wy k => by
                refine (rused_at r2 g2 _ L2 wy (HQ.out.below k).ref.reads).mono ?_
                rintro e wz ⟨rfl, kz⟩
                exact ⟨rfl, k.trans (kz.mono k.size)⟩
              have C23 : Hid (∀ wy, Below w5.heap.size w5 wy → Calls Try.prog 23 #[.pointer (some ⟨r, 0, none⟩)] wy fun e wz => e = .returned (.int .i64 (h : Nat)) ∧ Below w5.heap.size w5 wz) := fun wy k => by
                refine (hand_at r g K h L2 wy (HQ.out.below k).tab).mono ?_
                rintro e wz ⟨rfl, rfl⟩
                exact ⟨rfl, k⟩
              have C25 : Hid (∀ wy, Below w5.heap.size w5 wy → Calls Try.prog 25 #[.pointer (some ⟨r, 0, none⟩)] wy fun e wz => e = .returned (.slice (some ⟨wy.heap.size, 0, none⟩) NL NL) ∧ SrcT wz (some ⟨wy.heap.size, 0, none⟩) NL NL (nms L2) ∧ Below w5.heap.size w5 wz) := fun wy k => by
                have hT := (HQ.out.below k).tab
                refine (keys_at r g K h L2 wy hT).mono ?_
                rintro e wz ⟨rfl, hz, kz⟩
                rw [← hNL]
                exact ⟨rfl, SrcT.of_block hz (by rw [nms_length]; exact hNL.symm) (by rw [hNL]; have := hT.inv.max; unfold maxLen; omega), k.trans (kz.mono k.size)⟩
              have C26 : Hid (∀ wy, Below w5.heap.size w5 wy → Calls Try.prog 26 #[.pointer (some ⟨r2, 0, none⟩)] wy fun e wz => ∃ ta tc, e = .returned (.slice ta NL tc) ∧ SrcT wz ta NL tc (nms L2) ∧ Below w5.heap.size w5 wz ∧ Below wy.heap.size wy wz) := fun wy k => by
                have hR := (HQ.out.below k).ref.reads
                rw [← hNL] at hR
                refine (rkeys_at r2 g2 NL L2 wy hR).mono ?_
                rintro e wz ⟨ta, tc, rfl, hz, kz⟩
                exact ⟨ta, tc, rfl, hz, k.trans (kz.mono k.size), kz⟩
              have C24 : Hid (∀ wy a1 c1 a2 c2, Below w5.heap.size w5 wy → SrcT wy a1 NL c1 (nms L2) → SrcT wy a2 NL c2 (nms L2) → Calls Try.prog 24 #[.slice a1 NL c1, .slice a2 NL c2] wy fun e wz => e = .returned (.bool true) ∧ Below w5.heap.size w5 wz) := fun wy a1 c1 a2 c2 k h1 h2 => by
                refine (same_texts wy a1 a2 NL c1 NL c2 (nms L2) h1 h2).mono ?_
                rintro e wz ⟨rfl, kz⟩
                exact ⟨rfl, k.trans (kz.mono k.size)⟩
              generalize used L2 = U at C21 C22
              have HTC : Hid (∀ wy, Below w5.heap.size w5 wy → wy.cell? ⟨r2, 1, none⟩ = some (.int .i64 (h : Nat))) := fun wy k => (HQ.out.below k).ref.cellR.2.1
              have hc5 := HTC.out _ (Below.refl _ _)
              have u3 : (!(((U : Nat) : Int) == ((U : Nat) : Int))) = false := by simp
              have u4 : (!(((h : Nat) : Int) == ((h : Nat) : Int))) = false := by simp
              clear hNL
              go_wp2_with fail
              go_region_held3 (fun w' => w'.cell? ⟨r2, 1, none⟩ = some (.int .i64 (h : Nat))) (first | assumption | go_keep) (first
                | (go_at_call 24; refine (C24.out _ _ _ _ _ K10.out T9b.out T10.out).mono ?_; rintro e w11 ⟨rfl, k11⟩; have K11 := hide k11; have hc11 := HTC.out w11 k11; clear k11)
                | (go_at_call 26; refine (C26.out _ K9.out).mono ?_; rintro e w10 ⟨ta, tc, rfl, t10, k10, kk10⟩; have K10 := hide k10; have T10 := hide t10; have T9b := hide (T9.out.below kk10); have hc10 := HTC.out w10 k10; clear k10 t10 kk10)
                | (go_at_call 25; refine (C25.out _ K8.out).mono ?_; rintro e w9 ⟨rfl, t9, k9⟩; have K9 := hide k9; have T9 := hide t9; have hc9 := HTC.out w9 k9; clear k9 t9)
                | (go_at_call 23; refine (C23.out _ K7.out).mono ?_; rintro e w8 ⟨rfl, k8⟩; have K8 := hide k8; have hc8 := HTC.out w8 k8; clear k8)
                | (go_at_call 22; refine (C22.out _ K6.out).mono ?_; rintro e w7 ⟨rfl, k7⟩; have K7 := hide k7; have hc7 := HTC.out w7 k7; clear k7)
                | (go_at_call 21; refine (C21.out _ (by first | exact (Below.refl _ _).drew | exact Below.refl _ _)).mono ?_; rintro e w6 ⟨rfl, k6⟩; have K6 := hide k6; have hc6 := HTC.out w6 k6; clear k6))
              all_goals
                have HBE := hide (HQ.out.below K11.out)
                clear C21 C22 C23 C24 C25 C26 HTC hc5 hc6 hc7 hc8 hc9 hc10 hc11 T9 T10 T9b K6 K7 K8 K9 K10 K11 HQ
                go_wp2_with fail
                go_roundw
                case rel => exact ⟨i + 1, r, g, L2, h, by omega, by go_num, rfl, HBE⟩
                case measure => simp [intOf]; omega
        · as_aux_lemma =>
            have HC0 := hide (clone_at r g K h L wt HT.out.tab)
            go_wp2_with fail
            refine HC0.out.mono ?_
            rintro e w3 ⟨rfl, h3, k3⟩
            have H3 := hide (HT.out.below k3)
            have HC3 := hide h3
            obtain ⟨ct, hct⟩ : ∃ ct, ct = wt.heap.size := ⟨_, rfl⟩
            obtain ⟨cg, hcg⟩ : ∃ cg, cg = wt.heap.size + 1 := ⟨_, rfl⟩
            have hlt := HT.out.tab.lt
            have hsz := HT.out.bel.size
            have HNE : Hid (ct ≠ r ∧ ct ≠ g ∧ cg ≠ r ∧ cg ≠ g) := ⟨by omega, by omega, by omega, by omega⟩
            have LOW2 : Hid (w.heap.size ≤ ct ∧ w.heap.size ≤ cg ∧ w.heap.size ≤ r2 ∧ w.heap.size ≤ g2) := ⟨by omega, by omega, LOW.out.2.2.1, LOW.out.2.2.2⟩
            rw [← hcg, ← hct] at HC3
            rw [← hct]
            clear h3 k3 hct hcg HT HC0 hlt hsz b1 b2 b3 b4 b5 HBX
            have HP := hide (put_at r g K h L 1 ⟨#[115, 112, 111, 105, 108, 116]⟩ none 0 0 [] 9 w3 H3.out.tab (Src.nilS w3) ⟨fun h0 => by omega, fun h0 => by omega⟩)
            generalize code K L 1 ⟨#[115, 112, 111, 105, 108, 116]⟩ 0 9 = cd4 at HP
            generalize (put K L h 1 ⟨#[115, 112, 111, 105, 108, 116]⟩ (strN []) 9).1 = L4 at HP
            generalize (put K L h 1 ⟨#[115, 112, 111, 105, 108, 116]⟩ (strN []) 9).2 = h4 at HP
            go_wp2_with fail
            refine HP.out.mono ?_
            rintro e w4 ⟨rfl, t4, k4⟩
            have H4 := hide (H3.out.tabKept LOW.out.1 LOW.out.2.1 k4 t4)
            have HC4 := hide (HC3.out.kept k4 HNE.out.1 HNE.out.2.1 HNE.out.2.2.1 HNE.out.2.2.2)
            have hc3 := H4.out.cells.2.2.1
            have HD := fun w' (t : IsTab w' r g K L4 h4) => hide (drop_at r g K h4 L4 X.key w' t)
            generalize isIn L4 X.key = BI at HD
            generalize dropL L4 X.key = L5 at HD
            clear t4 k4 H3 HC3 HP
            go_wp2_with fail
            refine (HD _ H4.out.tab).out.mono ?_
            rintro e w5 ⟨rfl, t5, k5⟩
            have H5 := hide (H4.out.tabKept LOW.out.1 LOW.out.2.1 (k5.wide (Or.inr rfl)) t5)
            have HC5 := hide (HC4.out.kept k5 HNE.out.2.1 HNE.out.2.1 HNE.out.2.2.2 HNE.out.2.2.2)
            have HQ : Hid (Both w w5 ct cg r2 g2 K L h) := ⟨HC5.out, H5.out.ref.new (Nat.le_refl _), H5.out.bel, LOW2.out.1, LOW2.out.2.1, LOW2.out.2.2.1, LOW2.out.2.2.2⟩
            clear t5 k5 HD H4 HC4 H5 HC5 HNE LOW2 LOW hc3
            obtain ⟨NL, hNL⟩ : ∃ NL, NL = L.length := ⟨_, rfl⟩
            have C21 : Hid (∀ wy, Below w5.heap.size w5 wy → Calls Try.prog 21 #[.pointer (some ⟨ct, 0, none⟩)] wy fun e wz => e = .returned (.int .i64 (used L : Nat)) ∧ Below w5.heap.size w5 wz) := fun wy k => by
              refine (used_at ct cg K h L wy (HQ.out.below k).tab).mono ?_
              rintro e wz ⟨rfl, kz⟩
              exact ⟨rfl, k.trans (kz.mono k.size)⟩
            have C22 : Hid (∀ wy, Below w5.heap.size w5 wy → Calls Try.prog 22 #[.pointer (some ⟨r2, 0, none⟩)] wy fun e wz => e = .returned (.int .i64 (used L : Nat)) ∧ Below w5.heap.size w5 wz) := fun wy k => by
              refine (rused_at r2 g2 _ L wy (HQ.out.below k).ref.reads).mono ?_
              rintro e wz ⟨rfl, kz⟩
              exact ⟨rfl, k.trans (kz.mono k.size)⟩
            have C23 : Hid (∀ wy, Below w5.heap.size w5 wy → Calls Try.prog 23 #[.pointer (some ⟨ct, 0, none⟩)] wy fun e wz => e = .returned (.int .i64 (h : Nat)) ∧ Below w5.heap.size w5 wz) := fun wy k => by
              refine (hand_at ct cg K h L wy (HQ.out.below k).tab).mono ?_
              rintro e wz ⟨rfl, rfl⟩
              exact ⟨rfl, k⟩
            have C25 : Hid (∀ wy, Below w5.heap.size w5 wy → Calls Try.prog 25 #[.pointer (some ⟨ct, 0, none⟩)] wy fun e wz => e = .returned (.slice (some ⟨wy.heap.size, 0, none⟩) NL NL) ∧ SrcT wz (some ⟨wy.heap.size, 0, none⟩) NL NL (nms L) ∧ Below w5.heap.size w5 wz) := fun wy k => by
              have hT := (HQ.out.below k).tab
              refine (keys_at ct cg K h L wy hT).mono ?_
              rintro e wz ⟨rfl, hz, kz⟩
              rw [← hNL]
              exact ⟨rfl, SrcT.of_block hz (by rw [nms_length]; exact hNL.symm) (by rw [hNL]; have := hT.inv.max; unfold maxLen; omega), k.trans (kz.mono k.size)⟩
            have C26 : Hid (∀ wy, Below w5.heap.size w5 wy → Calls Try.prog 26 #[.pointer (some ⟨r2, 0, none⟩)] wy fun e wz => ∃ ta tc, e = .returned (.slice ta NL tc) ∧ SrcT wz ta NL tc (nms L) ∧ Below w5.heap.size w5 wz ∧ Below wy.heap.size wy wz) := fun wy k => by
              have hR := (HQ.out.below k).ref.reads
              rw [← hNL] at hR
              refine (rkeys_at r2 g2 NL L wy hR).mono ?_
              rintro e wz ⟨ta, tc, rfl, hz, kz⟩
              exact ⟨ta, tc, rfl, hz, k.trans (kz.mono k.size), kz⟩
            have C24 : Hid (∀ wy a1 c1 a2 c2, Below w5.heap.size w5 wy → SrcT wy a1 NL c1 (nms L) → SrcT wy a2 NL c2 (nms L) → Calls Try.prog 24 #[.slice a1 NL c1, .slice a2 NL c2] wy fun e wz => e = .returned (.bool true) ∧ Below w5.heap.size w5 wz) := fun wy a1 c1 a2 c2 k h1 h2 => by
              refine (same_texts wy a1 a2 NL c1 NL c2 (nms L) h1 h2).mono ?_
              rintro e wz ⟨rfl, kz⟩
              exact ⟨rfl, k.trans (kz.mono k.size)⟩
            generalize used L = U at C21 C22
            have HTC : Hid (∀ wy, Below w5.heap.size w5 wy → wy.cell? ⟨r2, 1, none⟩ = some (.int .i64 (h : Nat))) := fun wy k => (HQ.out.below k).ref.cellR.2.1
            have hc5 := HTC.out _ (Below.refl _ _)
            have u3 : (!(((U : Nat) : Int) == ((U : Nat) : Int))) = false := by simp
            have u4 : (!(((h : Nat) : Int) == ((h : Nat) : Int))) = false := by simp
            clear hNL
            go_wp2_with fail
            go_region_held3 (fun w' => w'.cell? ⟨r2, 1, none⟩ = some (.int .i64 (h : Nat))) (first | assumption | go_keep) (first
              | (go_at_call 24; refine (C24.out _ _ _ _ _ K10.out T9b.out T10.out).mono ?_; rintro e w11 ⟨rfl, k11⟩; have K11 := hide k11; have hc11 := HTC.out w11 k11; clear k11)
              | (go_at_call 26; refine (C26.out _ K9.out).mono ?_; rintro e w10 ⟨ta, tc, rfl, t10, k10, kk10⟩; have K10 := hide k10; have T10 := hide t10; have T9b := hide (T9.out.below kk10); have hc10 := HTC.out w10 k10; clear k10 t10 kk10)
              | (go_at_call 25; refine (C25.out _ K8.out).mono ?_; rintro e w9 ⟨rfl, t9, k9⟩; have K9 := hide k9; have T9 := hide t9; have hc9 := HTC.out w9 k9; clear k9 t9)
              | (go_at_call 23; refine (C23.out _ K7.out).mono ?_; rintro e w8 ⟨rfl, k8⟩; have K8 := hide k8; have hc8 := HTC.out w8 k8; clear k8)
              | (go_at_call 22; refine (C22.out _ K6.out).mono ?_; rintro e w7 ⟨rfl, k7⟩; have K7 := hide k7; have hc7 := HTC.out w7 k7; clear k7)
              | (go_at_call 21; refine (C21.out _ (by first | exact (Below.refl _ _).drew | exact Below.refl _ _)).mono ?_; rintro e w6 ⟨rfl, k6⟩; have K6 := hide k6; have hc6 := HTC.out w6 k6; clear k6))
            all_goals
              have HBE := hide (HQ.out.below K11.out)
              clear C21 C22 C23 C24 C25 C26 HTC hc5 hc6 hc7 hc8 hc9 hc10 hc11 T9 T10 T9b K6 K7 K8 K9 K10 K11 HQ
              go_wp2_with fail
              go_roundw
              case rel => exact ⟨i + 1, ct, cg, L, h, by omega, by go_num, rfl, HBE⟩
              case measure => simp [intOf]; omega
        · as_aux_lemma =>
            have HG := hide (get_at r g K h L X.now X.key wt HT.out.tab)
            have HG2 : Hid (∀ x w', RT x w' r2 g2 K L h → Calls Try.prog 17 #[.pointer (some ⟨r2, 0, none⟩), .int .i64 X.now, .string X.key] w' fun e w'' => ∃ v, e = .returned (.tuple #[v, .int .i64 (getN L X.now X.key), .int .i64 (getC L X.now X.key)]) ∧ Own w'' w'.heap.size 5 v (nums .u8 (byt (getB L X.now X.key))) ∧ RT x w'' r2 g2 K (getL L X.now X.key) h ∧ Kept g2 g2 w' w'') := fun x w' t => rget_at x r2 g2 K h L X.now X.key w' t
            have hfew := getB_few HT.out.tab.inv X.now X.key
            rw [← byt_length] at hfew
            have HBY := hide (byt_lt (getB L X.now X.key))
            generalize byt (getB L X.now X.key) = GB at HG HG2 hfew HBY
            generalize getN L X.now X.key = GN at HG HG2
            generalize getC L X.now X.key = GC at HG HG2
            generalize getL L X.now X.key = L2 at HG HG2
            go_wp2_with fail
            refine HG.out.mono ?_
            rintro e w4 ⟨v, rfl, ⟨ya, yc, rfl, ys, yo⟩, t4, k4⟩
            obtain ⟨lb, hlb1, hlb2⟩ := pick ya bx
            have hlb3 : lb = bx ∨ wt.heap.size ≤ lb := by
              rcases hlb2 with e | ⟨o', e⟩
              · exact Or.inl e
              · exact Or.inr ((yo lb o' e).1)
            have hRT : RT lb wt r2 g2 K L h := by
              rcases hlb3 with e | e
              · rw [e]; exact HT.out.ref
              · exact HT.out.ref.new e
            have HLB : Hid (w.heap.size ≤ lb ∧ lb ≠ r ∧ lb ≠ g ∧ lb ≠ r2 ∧ lb ≠ g2) := by
              have h1 := HT.out.tab.lt
              have h2 := HT.out.ref.lt
              have h3 := HWB.out
              have h4 := HT.out.bel.size
              obtain ⟨_, _, _, _, n5, n6, n7, n8⟩ := HT.out.apart
              rcases hlb3 with e | e
              · subst e; exact ⟨h3, n5, n6, n7, n8⟩
              · exact ⟨by omega, by omega, by omega, by omega, by omega⟩
            have HT4 : Hid (St w w4 r g r2 g2 K lb bx L2 h L h X) := (⟨HT.out.tab, hRT, HT.out.bel, HT.out.box, HT.out.src, HT.out.old⟩ : St w wt r g r2 g2 K lb bx L h L h X).tabKept LOW.out.1 LOW.out.2.1 (k4.wide (Or.inr rfl)) t4
            have nu4 : Numo w4 ya GB.length lb := ys.numo (fun h0 b o e => ⟨hlb1 b o e, (yo b o e).2⟩)
            obtain ⟨b1, b2, b3, b4, b5⟩ := HT4.out.cells
            have HYS := hide ys
            have HNU := hide nu4
            have HL1 := hide hlb1
            have hyc := ys.hcap
            have hym := ys.hmax
            unfold maxLen at hym
            obtain ⟨n4, hn4⟩ : ∃ n4, n4 = GB.length := ⟨_, rfl⟩
            rw [← hn4] at HYS HNU hyc hfew
            rw [← hn4]
            have HN4 := hide hn4
            clear ys yo t4 k4 HT HG hlb1 hlb2 hlb3 hRT nu4 hn4
            go_wp2_with fail
            refine (HG2.out lb w4 HT4.out.ref).mono ?_
            rintro e w5 ⟨v5, rfl, ho, t5, k5⟩
            obtain ⟨ma, mc, rfl, ms, _⟩ := own_src ho HBY.out
            have HT9 := hide (HT4.out.refKept LOW.out.2.2.1 LOW.out.2.2.2 (k5.wide (Or.inr rfl)) t5)
            have HYS5 := hide (HYS.out.keep (w' := w5) (fun h0 b o e => k5.block b (HYS.out.lt h0 e) (by rw [HL1.out b o e]; exact HLB.out.2.2.2.2) (by rw [HL1.out b o e]; exact HLB.out.2.2.2.2)) k5.size)
            have HNU5 := hide (HNU.out.keep (w' := w5) (fun hl => k5.block lb hl HLB.out.2.2.2.2 HLB.out.2.2.2.2) k5.size)
            have HMS := hide ms
            rw [← HN4.out] at HMS
            rw [← HN4.out]
            have HSB := hide (same_bytes w5 ya ma n4 yc n4 mc GB HYS5.out HMS.out)
            have u1 : (GN == GN) = true := by simp
            have u2 : (GC == GC) = true := by simp
            clear ho t5 k5 ms HT4 HYS HNU HG2 HYS5 HMS b1 b2 b3 b4 b5
            go_wp2_with fail
            refine HSB.out.mono ?_
            rintro e w6 ⟨rfl, rfl⟩
            clear HSB
            go_wp2_with fail
            go_loopw [22] (fun v wq => ∃ kq : Nat, kq ≤ n4 ∧ v = .int .i64 kq ∧ Hid (Kept lb lb w5 wq) ∧ Hid (Numo wq ya n4 lb)) (fun v _ => n4 - (intOf v).toNat)
            case atStart => exact ⟨0, Nat.zero_le _, rfl, Kept.refl _ _ _, HNU5⟩
            case round =>
              clear HNU5
              obtain ⟨kq, hk, rfl, HKq, HNq⟩ := hrel
              by_cases hkn : kq < n4
              · have hd2 : decide ((kq : Int) < (n4 : Int)) = true := decide_eq_true (by omega)
                obtain ⟨o9, q1, q2, q3⟩ := HNq.out (by omega)
                have HN9 := HNq
                subst q1
                obtain ⟨⟨y9, hy⟩, hfz⟩ := q3 kq hkn
                clear q2 q3 HNq
                go_wp2_with fail
                go_roundw
                case rel => exact ⟨kq + 1, by omega, by go_num, HKq.out.set _ _, HN9.out.set _ _ _⟩
                case measure => simp [intOf]; omega
              · have hd2 : decide ((kq : Int) < (n4 : Int)) = false := decide_eq_false (by omega)
                obtain ⟨p1, p2, p3, p4, p5⟩ := HLB.out
                have HQ := hide (HT9.out.both p1 p2 p3 p4 p5 HKq.out LOW.out.1 LOW.out.2.1 LOW.out.2.2.1 LOW.out.2.2.2)
                clear HKq HNq HT9 p1 p2 p3 p4 p5 HLB
                obtain ⟨NL, hNL⟩ : ∃ NL, NL = L2.length := ⟨_, rfl⟩
                have C21 : Hid (∀ wy, Below wr.heap.size wr wy → Calls Try.prog 21 #[.pointer (some ⟨r, 0, none⟩)] wy fun e wz => e = .returned (.int .i64 (used L2 : Nat)) ∧ Below wr.heap.size wr wz) := fun wy k => by
                  refine (used_at r g K h L2 wy (HQ.out.below k).tab).mono ?_
                  rintro e wz ⟨rfl, kz⟩
                  exact ⟨rfl, k.trans (kz.mono k.size)⟩
                have C22 : Hid (∀ wy, Below wr.heap.size wr wy → Calls Try.prog 22 #[.pointer (some ⟨r2, 0, none⟩)] wy fun e wz => e = .returned (.int .i64 (used L2 : Nat)) ∧ Below wr.heap.size wr wz) := fun wy k => by
                  refine (rused_at r2 g2 _ L2 wy (HQ.out.below k).ref.reads).mono ?_
                  rintro e wz ⟨rfl, kz⟩
                  exact ⟨rfl, k.trans (kz.mono k.size)⟩
                have C23 : Hid (∀ wy, Below wr.heap.size wr wy → Calls Try.prog 23 #[.pointer (some ⟨r, 0, none⟩)] wy fun e wz => e = .returned (.int .i64 (h : Nat)) ∧ Below wr.heap.size wr wz) := fun wy k => by
                  refine (hand_at r g K h L2 wy (HQ.out.below k).tab).mono ?_
                  rintro e wz ⟨rfl, rfl⟩
                  exact ⟨rfl, k⟩
                have C25 : Hid (∀ wy, Below wr.heap.size wr wy → Calls Try.prog 25 #[.pointer (some ⟨r, 0, none⟩)] wy fun e wz => e = .returned (.slice (some ⟨wy.heap.size, 0, none⟩) NL NL) ∧ SrcT wz (some ⟨wy.heap.size, 0, none⟩) NL NL (nms L2) ∧ Below wr.heap.size wr wz) := fun wy k => by
                  have hT := (HQ.out.below k).tab
                  refine (keys_at r g K h L2 wy hT).mono ?_
                  rintro e wz ⟨rfl, hz, kz⟩
                  rw [← hNL]
                  exact ⟨rfl, SrcT.of_block hz (by rw [nms_length]; exact hNL.symm) (by rw [hNL]; have := hT.inv.max; unfold maxLen; omega), k.trans (kz.mono k.size)⟩
                have C26 : Hid (∀ wy, Below wr.heap.size wr wy → Calls Try.prog 26 #[.pointer (some ⟨r2, 0, none⟩)] wy fun e wz => ∃ ta tc, e = .returned (.slice ta NL tc) ∧ SrcT wz ta NL tc (nms L2) ∧ Below wr.heap.size wr wz ∧ Below wy.heap.size wy wz) := fun wy k => by
                  have hR := (HQ.out.below k).ref.reads
                  rw [← hNL] at hR
                  refine (rkeys_at r2 g2 NL L2 wy hR).mono ?_
                  rintro e wz ⟨ta, tc, rfl, hz, kz⟩
                  exact ⟨ta, tc, rfl, hz, k.trans (kz.mono k.size), kz⟩
                have C24 : Hid (∀ wy a1 c1 a2 c2, Below wr.heap.size wr wy → SrcT wy a1 NL c1 (nms L2) → SrcT wy a2 NL c2 (nms L2) → Calls Try.prog 24 #[.slice a1 NL c1, .slice a2 NL c2] wy fun e wz => e = .returned (.bool true) ∧ Below wr.heap.size wr wz) := fun wy a1 c1 a2 c2 k h1 h2 => by
                  refine (same_texts wy a1 a2 NL c1 NL c2 (nms L2) h1 h2).mono ?_
                  rintro e wz ⟨rfl, kz⟩
                  exact ⟨rfl, k.trans (kz.mono k.size)⟩
                generalize used L2 = U at C21 C22
                have HTC : Hid (∀ wy, Below wr.heap.size wr wy → wy.cell? ⟨r2, 1, none⟩ = some (.int .i64 (h : Nat))) := fun wy k => (HQ.out.below k).ref.cellR.2.1
                have hc5 := HTC.out _ (Below.refl _ _)
                have u3 : (!(((U : Nat) : Int) == ((U : Nat) : Int))) = false := by simp
                have u4 : (!(((h : Nat) : Int) == ((h : Nat) : Int))) = false := by simp
                clear hNL
                go_wp2_with fail
                go_region_held3 (fun w' => w'.cell? ⟨r2, 1, none⟩ = some (.int .i64 (h : Nat))) (first | assumption | go_keep) (first
                  | (go_at_call 24; refine (C24.out _ _ _ _ _ K10.out T9b.out T10.out).mono ?_; rintro e w11 ⟨rfl, k11⟩; have K11 := hide k11; have hc11 := HTC.out w11 k11; clear k11)
                  | (go_at_call 26; refine (C26.out _ K9.out).mono ?_; rintro e w10 ⟨ta, tc, rfl, t10, k10, kk10⟩; have K10 := hide k10; have T10 := hide t10; have T9b := hide (T9.out.below kk10); have hc10 := HTC.out w10 k10; clear k10 t10 kk10)
                  | (go_at_call 25; refine (C25.out _ K8.out).mono ?_; rintro e w9 ⟨rfl, t9, k9⟩; have K9 := hide k9; have T9 := hide t9; have hc9 := HTC.out w9 k9; clear k9 t9)
                  | (go_at_call 23; refine (C23.out _ K7.out).mono ?_; rintro e w8 ⟨rfl, k8⟩; have K8 := hide k8; have hc8 := HTC.out w8 k8; clear k8)
                  | (go_at_call 22; refine (C22.out _ K6.out).mono ?_; rintro e w7 ⟨rfl, k7⟩; have K7 := hide k7; have hc7 := HTC.out w7 k7; clear k7)
                  | (go_at_call 21; refine (C21.out _ (by first | exact (Below.refl _ _).drew | exact Below.refl _ _)).mono ?_; rintro e w6 ⟨rfl, k6⟩; have K6 := hide k6; have hc6 := HTC.out w6 k6; clear k6))
                all_goals
                  have HBE := hide (HQ.out.below K11.out)
                  clear C21 C22 C23 C24 C25 C26 HTC hc5 hc6 hc7 hc8 hc9 hc10 hc11 T9 T10 T9b K6 K7 K8 K9 K10 K11 HQ
                  go_wp2_with fail
                  go_roundw
                  case rel => exact ⟨i + 1, r, g, L2, h, by omega, by go_num, rfl, HBE⟩
                  case measure => simp [intOf]; omega
        · as_aux_lemma =>
            have HG := hide (get_at r g K h L X.now X.key wt HT.out.tab)
            have HG2 : Hid (∀ x w', RT x w' r2 g2 K L h → Calls Try.prog 17 #[.pointer (some ⟨r2, 0, none⟩), .int .i64 X.now, .string X.key] w' fun e w'' => ∃ v, e = .returned (.tuple #[v, .int .i64 (getN L X.now X.key), .int .i64 (getC L X.now X.key)]) ∧ Own w'' w'.heap.size 5 v (nums .u8 (byt (getB L X.now X.key))) ∧ RT x w'' r2 g2 K (getL L X.now X.key) h ∧ Kept g2 g2 w' w'') := fun x w' t => rget_at x r2 g2 K h L X.now X.key w' t
            have hfew := getB_few HT.out.tab.inv X.now X.key
            rw [← byt_length] at hfew
            have HBY := hide (byt_lt (getB L X.now X.key))
            generalize byt (getB L X.now X.key) = GB at HG HG2 hfew HBY
            generalize getN L X.now X.key = GN at HG HG2
            generalize getC L X.now X.key = GC at HG HG2
            generalize getL L X.now X.key = L2 at HG HG2
            go_wp2_with fail
            refine HG.out.mono ?_
            rintro e w4 ⟨v, rfl, ⟨ya, yc, rfl, ys, yo⟩, t4, k4⟩
            obtain ⟨lb, hlb1, hlb2⟩ := pick ya bx
            have hlb3 : lb = bx ∨ wt.heap.size ≤ lb := by
              rcases hlb2 with e | ⟨o', e⟩
              · exact Or.inl e
              · exact Or.inr ((yo lb o' e).1)
            have hRT : RT lb wt r2 g2 K L h := by
              rcases hlb3 with e | e
              · rw [e]; exact HT.out.ref
              · exact HT.out.ref.new e
            have HLB : Hid (w.heap.size ≤ lb ∧ lb ≠ r ∧ lb ≠ g ∧ lb ≠ r2 ∧ lb ≠ g2) := by
              have h1 := HT.out.tab.lt
              have h2 := HT.out.ref.lt
              have h3 := HWB.out
              have h4 := HT.out.bel.size
              obtain ⟨_, _, _, _, n5, n6, n7, n8⟩ := HT.out.apart
              rcases hlb3 with e | e
              · subst e; exact ⟨h3, n5, n6, n7, n8⟩
              · exact ⟨by omega, by omega, by omega, by omega, by omega⟩
            have HT4 : Hid (St w w4 r g r2 g2 K lb bx L2 h L h X) := (⟨HT.out.tab, hRT, HT.out.bel, HT.out.box, HT.out.src, HT.out.old⟩ : St w wt r g r2 g2 K lb bx L h L h X).tabKept LOW.out.1 LOW.out.2.1 (k4.wide (Or.inr rfl)) t4
            have nu4 : Numo w4 ya GB.length lb := ys.numo (fun h0 b o e => ⟨hlb1 b o e, (yo b o e).2⟩)
            obtain ⟨b1, b2, b3, b4, b5⟩ := HT4.out.cells
            have HYS := hide ys
            have HNU := hide nu4
            have HL1 := hide hlb1
            have hyc := ys.hcap
            have hym := ys.hmax
            unfold maxLen at hym
            obtain ⟨n4, hn4⟩ : ∃ n4, n4 = GB.length := ⟨_, rfl⟩
            rw [← hn4] at HYS HNU hyc hfew
            rw [← hn4]
            have HN4 := hide hn4
            clear ys yo t4 k4 HT HG hlb1 hlb2 hlb3 hRT nu4 hn4
            go_wp2_with fail
            refine (HG2.out lb w4 HT4.out.ref).mono ?_
            rintro e w5 ⟨v5, rfl, ho, t5, k5⟩
            obtain ⟨ma, mc, rfl, ms, _⟩ := own_src ho HBY.out
            have HT9 := hide (HT4.out.refKept LOW.out.2.2.1 LOW.out.2.2.2 (k5.wide (Or.inr rfl)) t5)
            have HYS5 := hide (HYS.out.keep (w' := w5) (fun h0 b o e => k5.block b (HYS.out.lt h0 e) (by rw [HL1.out b o e]; exact HLB.out.2.2.2.2) (by rw [HL1.out b o e]; exact HLB.out.2.2.2.2)) k5.size)
            have HNU5 := hide (HNU.out.keep (w' := w5) (fun hl => k5.block lb hl HLB.out.2.2.2.2 HLB.out.2.2.2.2) k5.size)
            have HMS := hide ms
            rw [← HN4.out] at HMS
            rw [← HN4.out]
            have HSB := hide (same_bytes w5 ya ma n4 yc n4 mc GB HYS5.out HMS.out)
            have u1 : (GN == GN) = true := by simp
            have u2 : (GC == GC) = true := by simp
            clear ho t5 k5 ms HT4 HYS HNU HG2 HYS5 HMS b1 b2 b3 b4 b5
            go_wp2_with fail
            refine HSB.out.mono ?_
            rintro e w6 ⟨rfl, rfl⟩
            clear HSB
            go_wp2_with fail
            go_loopw [22] (fun v wq => ∃ kq : Nat, kq ≤ n4 ∧ v = .int .i64 kq ∧ Hid (Kept lb lb w5 wq) ∧ Hid (Numo wq ya n4 lb)) (fun v _ => n4 - (intOf v).toNat)
            case atStart => exact ⟨0, Nat.zero_le _, rfl, Kept.refl _ _ _, HNU5⟩
            case round =>
              clear HNU5
              obtain ⟨kq, hk, rfl, HKq, HNq⟩ := hrel
              by_cases hkn : kq < n4
              · have hd2 : decide ((kq : Int) < (n4 : Int)) = true := decide_eq_true (by omega)
                obtain ⟨o9, q1, q2, q3⟩ := HNq.out (by omega)
                have HN9 := HNq
                subst q1
                obtain ⟨⟨y9, hy⟩, hfz⟩ := q3 kq hkn
                clear q2 q3 HNq
                go_wp2_with fail
                go_roundw
                case rel => exact ⟨kq + 1, by omega, by go_num, HKq.out.set _ _, HN9.out.set _ _ _⟩
                case measure => simp [intOf]; omega
              · have hd2 : decide ((kq : Int) < (n4 : Int)) = false := decide_eq_false (by omega)
                obtain ⟨p1, p2, p3, p4, p5⟩ := HLB.out
                have HQ := hide (HT9.out.both p1 p2 p3 p4 p5 HKq.out LOW.out.1 LOW.out.2.1 LOW.out.2.2.1 LOW.out.2.2.2)
                clear HKq HNq HT9 p1 p2 p3 p4 p5 HLB
                obtain ⟨NL, hNL⟩ : ∃ NL, NL = L2.length := ⟨_, rfl⟩
                have C21 : Hid (∀ wy, Below wr.heap.size wr wy → Calls Try.prog 21 #[.pointer (some ⟨r, 0, none⟩)] wy fun e wz => e = .returned (.int .i64 (used L2 : Nat)) ∧ Below wr.heap.size wr wz) := fun wy k => by
                  refine (used_at r g K h L2 wy (HQ.out.below k).tab).mono ?_
                  rintro e wz ⟨rfl, kz⟩
                  exact ⟨rfl, k.trans (kz.mono k.size)⟩
                have C22 : Hid (∀ wy, Below wr.heap.size wr wy → Calls Try.prog 22 #[.pointer (some ⟨r2, 0, none⟩)] wy fun e wz => e = .returned (.int .i64 (used L2 : Nat)) ∧ Below wr.heap.size wr wz) := fun wy k => by
                  refine (rused_at r2 g2 _ L2 wy (HQ.out.below k).ref.reads).mono ?_
                  rintro e wz ⟨rfl, kz⟩
                  exact ⟨rfl, k.trans (kz.mono k.size)⟩
                have C23 : Hid (∀ wy, Below wr.heap.size wr wy → Calls Try.prog 23 #[.pointer (some ⟨r, 0, none⟩)] wy fun e wz => e = .returned (.int .i64 (h : Nat)) ∧ Below wr.heap.size wr wz) := fun wy k => by
                  refine (hand_at r g K h L2 wy (HQ.out.below k).tab).mono ?_
                  rintro e wz ⟨rfl, rfl⟩
                  exact ⟨rfl, k⟩
                have C25 : Hid (∀ wy, Below wr.heap.size wr wy → Calls Try.prog 25 #[.pointer (some ⟨r, 0, none⟩)] wy fun e wz => e = .returned (.slice (some ⟨wy.heap.size, 0, none⟩) NL NL) ∧ SrcT wz (some ⟨wy.heap.size, 0, none⟩) NL NL (nms L2) ∧ Below wr.heap.size wr wz) := fun wy k => by
                  have hT := (HQ.out.below k).tab
                  refine (keys_at r g K h L2 wy hT).mono ?_
                  rintro e wz ⟨rfl, hz, kz⟩
                  rw [← hNL]
                  exact ⟨rfl, SrcT.of_block hz (by rw [nms_length]; exact hNL.symm) (by rw [hNL]; have := hT.inv.max; unfold maxLen; omega), k.trans (kz.mono k.size)⟩
                have C26 : Hid (∀ wy, Below wr.heap.size wr wy → Calls Try.prog 26 #[.pointer (some ⟨r2, 0, none⟩)] wy fun e wz => ∃ ta tc, e = .returned (.slice ta NL tc) ∧ SrcT wz ta NL tc (nms L2) ∧ Below wr.heap.size wr wz ∧ Below wy.heap.size wy wz) := fun wy k => by
                  have hR := (HQ.out.below k).ref.reads
                  rw [← hNL] at hR
                  refine (rkeys_at r2 g2 NL L2 wy hR).mono ?_
                  rintro e wz ⟨ta, tc, rfl, hz, kz⟩
                  exact ⟨ta, tc, rfl, hz, k.trans (kz.mono k.size), kz⟩
                have C24 : Hid (∀ wy a1 c1 a2 c2, Below wr.heap.size wr wy → SrcT wy a1 NL c1 (nms L2) → SrcT wy a2 NL c2 (nms L2) → Calls Try.prog 24 #[.slice a1 NL c1, .slice a2 NL c2] wy fun e wz => e = .returned (.bool true) ∧ Below wr.heap.size wr wz) := fun wy a1 c1 a2 c2 k h1 h2 => by
                  refine (same_texts wy a1 a2 NL c1 NL c2 (nms L2) h1 h2).mono ?_
                  rintro e wz ⟨rfl, kz⟩
                  exact ⟨rfl, k.trans (kz.mono k.size)⟩
                generalize used L2 = U at C21 C22
                have HTC : Hid (∀ wy, Below wr.heap.size wr wy → wy.cell? ⟨r2, 1, none⟩ = some (.int .i64 (h : Nat))) := fun wy k => (HQ.out.below k).ref.cellR.2.1
                have hc5 := HTC.out _ (Below.refl _ _)
                have u3 : (!(((U : Nat) : Int) == ((U : Nat) : Int))) = false := by simp
                have u4 : (!(((h : Nat) : Int) == ((h : Nat) : Int))) = false := by simp
                clear hNL
                go_wp2_with fail
                go_region_held3 (fun w' => w'.cell? ⟨r2, 1, none⟩ = some (.int .i64 (h : Nat))) (first | assumption | go_keep) (first
                  | (go_at_call 24; refine (C24.out _ _ _ _ _ K10.out T9b.out T10.out).mono ?_; rintro e w11 ⟨rfl, k11⟩; have K11 := hide k11; have hc11 := HTC.out w11 k11; clear k11)
                  | (go_at_call 26; refine (C26.out _ K9.out).mono ?_; rintro e w10 ⟨ta, tc, rfl, t10, k10, kk10⟩; have K10 := hide k10; have T10 := hide t10; have T9b := hide (T9.out.below kk10); have hc10 := HTC.out w10 k10; clear k10 t10 kk10)
                  | (go_at_call 25; refine (C25.out _ K8.out).mono ?_; rintro e w9 ⟨rfl, t9, k9⟩; have K9 := hide k9; have T9 := hide t9; have hc9 := HTC.out w9 k9; clear k9 t9)
                  | (go_at_call 23; refine (C23.out _ K7.out).mono ?_; rintro e w8 ⟨rfl, k8⟩; have K8 := hide k8; have hc8 := HTC.out w8 k8; clear k8)
                  | (go_at_call 22; refine (C22.out _ K6.out).mono ?_; rintro e w7 ⟨rfl, k7⟩; have K7 := hide k7; have hc7 := HTC.out w7 k7; clear k7)
                  | (go_at_call 21; refine (C21.out _ (by first | exact (Below.refl _ _).drew | exact Below.refl _ _)).mono ?_; rintro e w6 ⟨rfl, k6⟩; have K6 := hide k6; have hc6 := HTC.out w6 k6; clear k6))
                all_goals
                  have HBE := hide (HQ.out.below K11.out)
                  clear C21 C22 C23 C24 C25 C26 HTC hc5 hc6 hc7 hc8 hc9 hc10 hc11 T9 T10 T9b K6 K7 K8 K9 K10 K11 HQ
                  go_wp2_with fail
                  go_roundw
                  case rel => exact ⟨i + 1, r, g, L2, h, by omega, by go_num, rfl, HBE⟩
                  case measure => simp [intOf]; omega
        · as_aux_lemma =>
            have HBB := hide (bytes_at X.a X.n X.c X.l wt HT.out.src (by have := HIN.out.2; omega))
            go_wp2_with fail
            refine HBB.out.mono ?_
            rintro e w4 ⟨v, rfl, ho, k4⟩
            have hln := HT.out.src.hlen
            obtain ⟨ya, yc, hv, ys, yo⟩ := own_src ho HT.out.src.byte
            subst hv
            have hfr : ∀ b o, ya = some ⟨b, o, none⟩ → ∀ j, j < X.l.length → w4.frozen? ⟨b, o + j, none⟩ = false := fun b o e j hj => by
              obtain ⟨cur, hh⟩ := (ho.block (g := b) (by rw [e]; rfl)).2
              simp [World.frozen?, hh]
            have hblt : ∀ b o, ya = some ⟨b, o, none⟩ → b < w4.heap.size := fun b o e => ho.ltB (by rw [e]; rfl)
            obtain ⟨lb, hlb1, hlb2⟩ := pick ya bx
            have hlb3 : lb = bx ∨ wt.heap.size ≤ lb := by
              rcases hlb2 with e | ⟨o', e⟩
              · exact Or.inl e
              · exact Or.inr (yo lb o' e)
            have hRT : RT lb wt r2 g2 K L h := by
              rcases hlb3 with e | e
              · rw [e]; exact HT.out.ref
              · exact HT.out.ref.new e
            have HLB : Hid (w.heap.size ≤ lb ∧ lb ≠ r ∧ lb ≠ g ∧ lb ≠ r2 ∧ lb ≠ g2) := by
              have h1 := HT.out.tab.lt
              have h2 := HT.out.ref.lt
              have h3 := HWB.out
              have h4 := HT.out.bel.size
              obtain ⟨_, _, _, _, n5, n6, n7, n8⟩ := HT.out.apart
              rcases hlb3 with e | e
              · subst e; exact ⟨h3, n5, n6, n7, n8⟩
              · exact ⟨by omega, by omega, by omega, by omega, by omega⟩
            have hlt4 : lb < w4.heap.size := by
              have h5 := HT.out.cells.2.2.2.2
              have := k4.size
              rcases hlb2 with e | ⟨o', e⟩
              · omega
              · exact hblt lb o' e
            have hS4 := (⟨HT.out.tab, hRT, HT.out.bel, HT.out.box, HT.out.src, HT.out.old⟩ : St w wt r g r2 g2 K lb bx L h L h X).below k4
            have nu4 : Numo w4 ya X.l.length lb := ys.numo (fun h0 b o e => ⟨hlb1 b o e, hfr b o e⟩)
            rw [hln] at ys nu4
            rw [hln]
            have hyc := ys.hcap
            have hym := ys.hmax
            unfold maxLen at hym
            have P4 : Hid (Pw w w4 r g r2 g2 K lb bx L h L h X ya yc) := ⟨hS4, ys, nu4, hlt4⟩
            have HL1 := hide hlb1
            obtain ⟨b1, b2, b3, b4, b5⟩ := hS4.cells
            have C13 : Hid (∀ wy, Below w4.heap.size w4 wy → Calls Try.prog 13 #[.pointer (some ⟨r, 0, none⟩), .int .i64 X.now, .string X.key, .slice ya X.n yc, .int .i64 X.age] wy fun e wz => e = .returned (.int .i64 (code K L X.now X.key X.n X.age)) ∧ Pw w wz r g r2 g2 K lb bx (put K L h X.now X.key (strN X.l) X.age).1 (put K L h X.now X.key (strN X.l) X.age).2 L h X ya yc) := fun wy k => by
              have hP := P4.out.below k
              refine (put_at r g K h L X.now X.key ya X.n yc X.l X.age wy hP.st.tab hP.own ⟨fun h0 b o e => by rw [HL1.out b o e]; exact HLB.out.2.1, fun h0 b o e => by rw [HL1.out b o e]; exact HLB.out.2.2.1⟩).mono ?_
              rintro e wz ⟨rfl, tz, kz⟩
              exact ⟨rfl, hP.kept HL1.out kz HLB.out.2.1 HLB.out.2.2.1 (hP.st.tabKept LOW.out.1 LOW.out.2.1 kz tz)⟩
            have C14 : Hid (∀ wy L2 h2, Pw w wy r g r2 g2 K lb bx L2 h2 L h X ya yc → Calls Try.prog 14 #[.pointer (some ⟨r2, 0, none⟩), .int .i64 X.now, .string X.key, .slice X.a X.n X.c, .int .i64 X.age] wy fun e wz => e = .returned (.int .i64 (code K L X.now X.key X.n X.age)) ∧ Pw w wz r g r2 g2 K lb bx L2 h2 (put K L h X.now X.key (strN X.l) X.age).1 (put K L h X.now X.key (strN X.l) X.age).2 X ya yc) := fun wy L2 h2 hP => by
              refine (rput_at lb r2 g2 K h L X.now X.key X.a X.n X.c X.l X.age wy hP.st.ref hP.st.src ⟨fun h0 b o e => by have := hP.st.old b o h0 e; have := LOW.out.2.2.1; omega, fun h0 b o e => by have := hP.st.old b o h0 e; have := LOW.out.2.2.2; omega⟩ hP.lt).mono ?_
              rintro e wz ⟨rfl, tz, kz⟩
              exact ⟨rfl, hP.kept HL1.out kz HLB.out.2.2.2.1 HLB.out.2.2.2.2 (hP.st.refKept LOW.out.2.2.1 LOW.out.2.2.2 kz tz)⟩
            generalize code K L X.now X.key X.n X.age = CC at C13 C14
            generalize (put K L h X.now X.key (strN X.l) X.age).1 = L2 at C13 C14
            generalize (put K L h X.now X.key (strN X.l) X.age).2 = h2 at C13 C14
            have C15 : Hid (∀ wy, Pw w wy r g r2 g2 K lb bx L2 h2 L2 h2 X ya yc → Calls Try.prog 15 #[.slice ya X.n yc, .slice X.a X.n X.c] wy fun e wz => e = .returned (.bool true) ∧ Pw w wz r g r2 g2 K lb bx L2 h2 L2 h2 X ya yc) := fun wy hP => by
              refine (same_bytes wy ya X.a X.n yc X.n X.c X.l hP.own hP.st.src).mono ?_
              rintro e wz ⟨rfl, rfl⟩
              exact ⟨rfl, hP⟩
            have u1 : (CC == CC) = true := by simp
            clear ho k4 hln yo hfr hblt hlb1 hlb2 hlb3 hRT hlt4 hS4 nu4 ys P4 HBB HT
            go_wp2_with fail
            go_region_held3 (fun w' => w'.cell? ⟨bx, 1, none⟩ = some (.int .i64 X.now) ∧ w'.cell? ⟨bx, 2, none⟩ = some (.int .i64 X.age) ∧ w'.cell? ⟨bx, 3, none⟩ = some (.string X.key) ∧ w'.cell? ⟨bx, 4, none⟩ = some (.slice X.a X.n X.c)) (first | assumption | exact ⟨by assumption, by assumption, by assumption, by assumption⟩ | go_keep) (first
              | (go_at_call 15; refine (C15.out _ P6.out).mono ?_; rintro e w7 ⟨rfl, p7⟩; have P7 := hide p7; obtain ⟨d1, d2, d3, d4, _⟩ := p7.st.cells; clear p7)
              | (go_at_call 14; refine (C14.out _ _ _ P5.out).mono ?_; rintro e w6 ⟨rfl, p6⟩; have P6 := hide p6; obtain ⟨d1, d2, d3, d4, _⟩ := p6.st.cells; clear p6)
              | (go_at_call 13; refine (C13.out _ (by first | exact (Below.refl _ _).drew | exact Below.refl _ _)).mono ?_; rintro e w5 ⟨rfl, p5⟩; have P5 := hide p5; obtain ⟨d1, d2, d3, d4, _⟩ := p5.st.cells; clear p5))
            all_goals
              have HT9 := hide P7.out.st
              have HNU7 := hide P7.out.num
              clear C13 C14 C15 P5 P6 P7 b1 b2 b3 b4 b5 u1
              go_wp2_with fail
              go_loopw [15] (fun v wq => ∃ kq : Nat, kq ≤ X.n ∧ v = .int .i64 kq ∧ Hid (Kept lb lb w7 wq) ∧ Hid (Numo wq ya X.n lb)) (fun v _ => X.n - (intOf v).toNat)
              case atStart => exact ⟨0, Nat.zero_le _, rfl, Kept.refl _ _ _, HNU7⟩
              case round =>
                clear HNU7
                obtain ⟨kq, hk, rfl, HKq, HNq⟩ := hrel
                by_cases hkn : kq < X.n
                · have hd2 : decide ((kq : Int) < (X.n : Int)) = true := decide_eq_true (by omega)
                  obtain ⟨o9, q1, q2, q3⟩ := HNq.out (by omega)
                  have HN9 := HNq
                  subst q1
                  obtain ⟨⟨y9, hy⟩, hfz⟩ := q3 kq hkn
                  clear q2 q3 HNq
                  go_wp2_with fail
                  go_roundw
                  case rel => exact ⟨kq + 1, by omega, by go_num, HKq.out.set _ _, HN9.out.set _ _ _⟩
                  case measure => simp [intOf]; omega
                · have hd2 : decide ((kq : Int) < (X.n : Int)) = false := decide_eq_false (by omega)
                  obtain ⟨p1, p2, p3, p4, p5⟩ := HLB.out
                  have HQ := hide (HT9.out.both p1 p2 p3 p4 p5 HKq.out LOW.out.1 LOW.out.2.1 LOW.out.2.2.1 LOW.out.2.2.2)
                  clear HKq HNq HT9 p1 p2 p3 p4 p5 HLB
                  obtain ⟨NL, hNL⟩ : ∃ NL, NL = L2.length := ⟨_, rfl⟩
                  have C21 : Hid (∀ wy, Below wr.heap.size wr wy → Calls Try.prog 21 #[.pointer (some ⟨r, 0, none⟩)] wy fun e wz => e = .returned (.int .i64 (used L2 : Nat)) ∧ Below wr.heap.size wr wz) := fun wy k => by
                    refine (used_at r g K h2 L2 wy (HQ.out.below k).tab).mono ?_
                    rintro e wz ⟨rfl, kz⟩
                    exact ⟨rfl, k.trans (kz.mono k.size)⟩
                  have C22 : Hid (∀ wy, Below wr.heap.size wr wy → Calls Try.prog 22 #[.pointer (some ⟨r2, 0, none⟩)] wy fun e wz => e = .returned (.int .i64 (used L2 : Nat)) ∧ Below wr.heap.size wr wz) := fun wy k => by
                    refine (rused_at r2 g2 _ L2 wy (HQ.out.below k).ref.reads).mono ?_
                    rintro e wz ⟨rfl, kz⟩
                    exact ⟨rfl, k.trans (kz.mono k.size)⟩
                  have C23 : Hid (∀ wy, Below wr.heap.size wr wy → Calls Try.prog 23 #[.pointer (some ⟨r, 0, none⟩)] wy fun e wz => e = .returned (.int .i64 (h2 : Nat)) ∧ Below wr.heap.size wr wz) := fun wy k => by
                    refine (hand_at r g K h2 L2 wy (HQ.out.below k).tab).mono ?_
                    rintro e wz ⟨rfl, rfl⟩
                    exact ⟨rfl, k⟩
                  have C25 : Hid (∀ wy, Below wr.heap.size wr wy → Calls Try.prog 25 #[.pointer (some ⟨r, 0, none⟩)] wy fun e wz => e = .returned (.slice (some ⟨wy.heap.size, 0, none⟩) NL NL) ∧ SrcT wz (some ⟨wy.heap.size, 0, none⟩) NL NL (nms L2) ∧ Below wr.heap.size wr wz) := fun wy k => by
                    have hT := (HQ.out.below k).tab
                    refine (keys_at r g K h2 L2 wy hT).mono ?_
                    rintro e wz ⟨rfl, hz, kz⟩
                    rw [← hNL]
                    exact ⟨rfl, SrcT.of_block hz (by rw [nms_length]; exact hNL.symm) (by rw [hNL]; have := hT.inv.max; unfold maxLen; omega), k.trans (kz.mono k.size)⟩
                  have C26 : Hid (∀ wy, Below wr.heap.size wr wy → Calls Try.prog 26 #[.pointer (some ⟨r2, 0, none⟩)] wy fun e wz => ∃ ta tc, e = .returned (.slice ta NL tc) ∧ SrcT wz ta NL tc (nms L2) ∧ Below wr.heap.size wr wz ∧ Below wy.heap.size wy wz) := fun wy k => by
                    have hR := (HQ.out.below k).ref.reads
                    rw [← hNL] at hR
                    refine (rkeys_at r2 g2 NL L2 wy hR).mono ?_
                    rintro e wz ⟨ta, tc, rfl, hz, kz⟩
                    exact ⟨ta, tc, rfl, hz, k.trans (kz.mono k.size), kz⟩
                  have C24 : Hid (∀ wy a1 c1 a2 c2, Below wr.heap.size wr wy → SrcT wy a1 NL c1 (nms L2) → SrcT wy a2 NL c2 (nms L2) → Calls Try.prog 24 #[.slice a1 NL c1, .slice a2 NL c2] wy fun e wz => e = .returned (.bool true) ∧ Below wr.heap.size wr wz) := fun wy a1 c1 a2 c2 k h1 h2 => by
                    refine (same_texts wy a1 a2 NL c1 NL c2 (nms L2) h1 h2).mono ?_
                    rintro e wz ⟨rfl, kz⟩
                    exact ⟨rfl, k.trans (kz.mono k.size)⟩
                  generalize used L2 = U at C21 C22
                  have HTC : Hid (∀ wy, Below wr.heap.size wr wy → wy.cell? ⟨r2, 1, none⟩ = some (.int .i64 (h2 : Nat))) := fun wy k => (HQ.out.below k).ref.cellR.2.1
                  have hc5 := HTC.out _ (Below.refl _ _)
                  have u3 : (!(((U : Nat) : Int) == ((U : Nat) : Int))) = false := by simp
                  have u4 : (!(((h2 : Nat) : Int) == ((h2 : Nat) : Int))) = false := by simp
                  clear hNL
                  go_wp2_with fail
                  go_region_held3 (fun w' => w'.cell? ⟨r2, 1, none⟩ = some (.int .i64 (h2 : Nat))) (first | assumption | go_keep) (first
                    | (go_at_call 24; refine (C24.out _ _ _ _ _ K10.out T9b.out T10.out).mono ?_; rintro e w11 ⟨rfl, k11⟩; have K11 := hide k11; have hc11 := HTC.out w11 k11; clear k11)
                    | (go_at_call 26; refine (C26.out _ K9.out).mono ?_; rintro e w10 ⟨ta, tc, rfl, t10, k10, kk10⟩; have K10 := hide k10; have T10 := hide t10; have T9b := hide (T9.out.below kk10); have hc10 := HTC.out w10 k10; clear k10 t10 kk10)
                    | (go_at_call 25; refine (C25.out _ K8.out).mono ?_; rintro e w9 ⟨rfl, t9, k9⟩; have K9 := hide k9; have T9 := hide t9; have hc9 := HTC.out w9 k9; clear k9 t9)
                    | (go_at_call 23; refine (C23.out _ K7.out).mono ?_; rintro e w8 ⟨rfl, k8⟩; have K8 := hide k8; have hc8 := HTC.out w8 k8; clear k8)
                    | (go_at_call 22; refine (C22.out _ K6.out).mono ?_; rintro e w7 ⟨rfl, k7⟩; have K7 := hide k7; have hc7 := HTC.out w7 k7; clear k7)
                    | (go_at_call 21; refine (C21.out _ (by first | exact (Below.refl _ _).drew | exact Below.refl _ _)).mono ?_; rintro e w6 ⟨rfl, k6⟩; have K6 := hide k6; have hc6 := HTC.out w6 k6; clear k6))
                  all_goals
                    have HBE := hide (HQ.out.below K11.out)
                    clear C21 C22 C23 C24 C25 C26 HTC hc5 hc6 hc7 hc8 hc9 hc10 hc11 T9 T10 T9b K6 K7 K8 K9 K10 K11 HQ
                    go_wp2_with fail
                    go_roundw
                    case rel => exact ⟨i + 1, r, g, L2, h2, by omega, by go_num, rfl, HBE⟩
                    case measure => simp [intOf]; omega
        · as_aux_lemma =>
            have HBB := hide (bytes_at X.a X.n X.c X.l wt HT.out.src (by have := HIN.out.2; omega))
            go_wp2_with fail
            refine HBB.out.mono ?_
            rintro e w4 ⟨v, rfl, ho, k4⟩
            have hln := HT.out.src.hlen
            obtain ⟨ya, yc, hv, ys, yo⟩ := own_src ho HT.out.src.byte
            subst hv
            have hfr : ∀ b o, ya = some ⟨b, o, none⟩ → ∀ j, j < X.l.length → w4.frozen? ⟨b, o + j, none⟩ = false := fun b o e j hj => by
              obtain ⟨cur, hh⟩ := (ho.block (g := b) (by rw [e]; rfl)).2
              simp [World.frozen?, hh]
            have hblt : ∀ b o, ya = some ⟨b, o, none⟩ → b < w4.heap.size := fun b o e => ho.ltB (by rw [e]; rfl)
            obtain ⟨lb, hlb1, hlb2⟩ := pick ya bx
            have hlb3 : lb = bx ∨ wt.heap.size ≤ lb := by
              rcases hlb2 with e | ⟨o', e⟩
              · exact Or.inl e
              · exact Or.inr (yo lb o' e)
            have hRT : RT lb wt r2 g2 K L h := by
              rcases hlb3 with e | e
              · rw [e]; exact HT.out.ref
              · exact HT.out.ref.new e
            have HLB : Hid (w.heap.size ≤ lb ∧ lb ≠ r ∧ lb ≠ g ∧ lb ≠ r2 ∧ lb ≠ g2) := by
              have h1 := HT.out.tab.lt
              have h2 := HT.out.ref.lt
              have h3 := HWB.out
              have h4 := HT.out.bel.size
              obtain ⟨_, _, _, _, n5, n6, n7, n8⟩ := HT.out.apart
              rcases hlb3 with e | e
              · subst e; exact ⟨h3, n5, n6, n7, n8⟩
              · exact ⟨by omega, by omega, by omega, by omega, by omega⟩
            have hlt4 : lb < w4.heap.size := by
              have h5 := HT.out.cells.2.2.2.2
              have := k4.size
              rcases hlb2 with e | ⟨o', e⟩
              · omega
              · exact hblt lb o' e
            have hS4 := (⟨HT.out.tab, hRT, HT.out.bel, HT.out.box, HT.out.src, HT.out.old⟩ : St w wt r g r2 g2 K lb bx L h L h X).below k4
            have nu4 : Numo w4 ya X.l.length lb := ys.numo (fun h0 b o e => ⟨hlb1 b o e, hfr b o e⟩)
            rw [hln] at ys nu4
            rw [hln]
            have hyc := ys.hcap
            have hym := ys.hmax
            unfold maxLen at hym
            have P4 : Hid (Pw w w4 r g r2 g2 K lb bx L h L h X ya yc) := ⟨hS4, ys, nu4, hlt4⟩
            have HL1 := hide hlb1
            obtain ⟨b1, b2, b3, b4, b5⟩ := hS4.cells
            have C13 : Hid (∀ wy, Below w4.heap.size w4 wy → Calls Try.prog 13 #[.pointer (some ⟨r, 0, none⟩), .int .i64 X.now, .string X.key, .slice ya X.n yc, .int .i64 X.age] wy fun e wz => e = .returned (.int .i64 (code K L X.now X.key X.n X.age)) ∧ Pw w wz r g r2 g2 K lb bx (put K L h X.now X.key (strN X.l) X.age).1 (put K L h X.now X.key (strN X.l) X.age).2 L h X ya yc) := fun wy k => by
              have hP := P4.out.below k
              refine (put_at r g K h L X.now X.key ya X.n yc X.l X.age wy hP.st.tab hP.own ⟨fun h0 b o e => by rw [HL1.out b o e]; exact HLB.out.2.1, fun h0 b o e => by rw [HL1.out b o e]; exact HLB.out.2.2.1⟩).mono ?_
              rintro e wz ⟨rfl, tz, kz⟩
              exact ⟨rfl, hP.kept HL1.out kz HLB.out.2.1 HLB.out.2.2.1 (hP.st.tabKept LOW.out.1 LOW.out.2.1 kz tz)⟩
            have C14 : Hid (∀ wy L2 h2, Pw w wy r g r2 g2 K lb bx L2 h2 L h X ya yc → Calls Try.prog 14 #[.pointer (some ⟨r2, 0, none⟩), .int .i64 X.now, .string X.key, .slice X.a X.n X.c, .int .i64 X.age] wy fun e wz => e = .returned (.int .i64 (code K L X.now X.key X.n X.age)) ∧ Pw w wz r g r2 g2 K lb bx L2 h2 (put K L h X.now X.key (strN X.l) X.age).1 (put K L h X.now X.key (strN X.l) X.age).2 X ya yc) := fun wy L2 h2 hP => by
              refine (rput_at lb r2 g2 K h L X.now X.key X.a X.n X.c X.l X.age wy hP.st.ref hP.st.src ⟨fun h0 b o e => by have := hP.st.old b o h0 e; have := LOW.out.2.2.1; omega, fun h0 b o e => by have := hP.st.old b o h0 e; have := LOW.out.2.2.2; omega⟩ hP.lt).mono ?_
              rintro e wz ⟨rfl, tz, kz⟩
              exact ⟨rfl, hP.kept HL1.out kz HLB.out.2.2.2.1 HLB.out.2.2.2.2 (hP.st.refKept LOW.out.2.2.1 LOW.out.2.2.2 kz tz)⟩
            generalize code K L X.now X.key X.n X.age = CC at C13 C14
            generalize (put K L h X.now X.key (strN X.l) X.age).1 = L2 at C13 C14
            generalize (put K L h X.now X.key (strN X.l) X.age).2 = h2 at C13 C14
            have C15 : Hid (∀ wy, Pw w wy r g r2 g2 K lb bx L2 h2 L2 h2 X ya yc → Calls Try.prog 15 #[.slice ya X.n yc, .slice X.a X.n X.c] wy fun e wz => e = .returned (.bool true) ∧ Pw w wz r g r2 g2 K lb bx L2 h2 L2 h2 X ya yc) := fun wy hP => by
              refine (same_bytes wy ya X.a X.n yc X.n X.c X.l hP.own hP.st.src).mono ?_
              rintro e wz ⟨rfl, rfl⟩
              exact ⟨rfl, hP⟩
            have u1 : (CC == CC) = true := by simp
            clear ho k4 hln yo hfr hblt hlb1 hlb2 hlb3 hRT hlt4 hS4 nu4 ys P4 HBB HT
            go_wp2_with fail
            go_region_held3 (fun w' => w'.cell? ⟨bx, 1, none⟩ = some (.int .i64 X.now) ∧ w'.cell? ⟨bx, 2, none⟩ = some (.int .i64 X.age) ∧ w'.cell? ⟨bx, 3, none⟩ = some (.string X.key) ∧ w'.cell? ⟨bx, 4, none⟩ = some (.slice X.a X.n X.c)) (first | assumption | exact ⟨by assumption, by assumption, by assumption, by assumption⟩ | go_keep) (first
              | (go_at_call 15; refine (C15.out _ P6.out).mono ?_; rintro e w7 ⟨rfl, p7⟩; have P7 := hide p7; obtain ⟨d1, d2, d3, d4, _⟩ := p7.st.cells; clear p7)
              | (go_at_call 14; refine (C14.out _ _ _ P5.out).mono ?_; rintro e w6 ⟨rfl, p6⟩; have P6 := hide p6; obtain ⟨d1, d2, d3, d4, _⟩ := p6.st.cells; clear p6)
              | (go_at_call 13; refine (C13.out _ (by first | exact (Below.refl _ _).drew | exact Below.refl _ _)).mono ?_; rintro e w5 ⟨rfl, p5⟩; have P5 := hide p5; obtain ⟨d1, d2, d3, d4, _⟩ := p5.st.cells; clear p5))
            all_goals
              have HT9 := hide P7.out.st
              have HNU7 := hide P7.out.num
              clear C13 C14 C15 P5 P6 P7 b1 b2 b3 b4 b5 u1
              go_wp2_with fail
              go_loopw [15] (fun v wq => ∃ kq : Nat, kq ≤ X.n ∧ v = .int .i64 kq ∧ Hid (Kept lb lb w7 wq) ∧ Hid (Numo wq ya X.n lb)) (fun v _ => X.n - (intOf v).toNat)
              case atStart => exact ⟨0, Nat.zero_le _, rfl, Kept.refl _ _ _, HNU7⟩
              case round =>
                clear HNU7
                obtain ⟨kq, hk, rfl, HKq, HNq⟩ := hrel
                by_cases hkn : kq < X.n
                · have hd2 : decide ((kq : Int) < (X.n : Int)) = true := decide_eq_true (by omega)
                  obtain ⟨o9, q1, q2, q3⟩ := HNq.out (by omega)
                  have HN9 := HNq
                  subst q1
                  obtain ⟨⟨y9, hy⟩, hfz⟩ := q3 kq hkn
                  clear q2 q3 HNq
                  go_wp2_with fail
                  go_roundw
                  case rel => exact ⟨kq + 1, by omega, by go_num, HKq.out.set _ _, HN9.out.set _ _ _⟩
                  case measure => simp [intOf]; omega
                · have hd2 : decide ((kq : Int) < (X.n : Int)) = false := decide_eq_false (by omega)
                  obtain ⟨p1, p2, p3, p4, p5⟩ := HLB.out
                  have HQ := hide (HT9.out.both p1 p2 p3 p4 p5 HKq.out LOW.out.1 LOW.out.2.1 LOW.out.2.2.1 LOW.out.2.2.2)
                  clear HKq HNq HT9 p1 p2 p3 p4 p5 HLB
                  obtain ⟨NL, hNL⟩ : ∃ NL, NL = L2.length := ⟨_, rfl⟩
                  have C21 : Hid (∀ wy, Below wr.heap.size wr wy → Calls Try.prog 21 #[.pointer (some ⟨r, 0, none⟩)] wy fun e wz => e = .returned (.int .i64 (used L2 : Nat)) ∧ Below wr.heap.size wr wz) := fun wy k => by
                    refine (used_at r g K h2 L2 wy (HQ.out.below k).tab).mono ?_
                    rintro e wz ⟨rfl, kz⟩
                    exact ⟨rfl, k.trans (kz.mono k.size)⟩
                  have C22 : Hid (∀ wy, Below wr.heap.size wr wy → Calls Try.prog 22 #[.pointer (some ⟨r2, 0, none⟩)] wy fun e wz => e = .returned (.int .i64 (used L2 : Nat)) ∧ Below wr.heap.size wr wz) := fun wy k => by
                    refine (rused_at r2 g2 _ L2 wy (HQ.out.below k).ref.reads).mono ?_
                    rintro e wz ⟨rfl, kz⟩
                    exact ⟨rfl, k.trans (kz.mono k.size)⟩
                  have C23 : Hid (∀ wy, Below wr.heap.size wr wy → Calls Try.prog 23 #[.pointer (some ⟨r, 0, none⟩)] wy fun e wz => e = .returned (.int .i64 (h2 : Nat)) ∧ Below wr.heap.size wr wz) := fun wy k => by
                    refine (hand_at r g K h2 L2 wy (HQ.out.below k).tab).mono ?_
                    rintro e wz ⟨rfl, rfl⟩
                    exact ⟨rfl, k⟩
                  have C25 : Hid (∀ wy, Below wr.heap.size wr wy → Calls Try.prog 25 #[.pointer (some ⟨r, 0, none⟩)] wy fun e wz => e = .returned (.slice (some ⟨wy.heap.size, 0, none⟩) NL NL) ∧ SrcT wz (some ⟨wy.heap.size, 0, none⟩) NL NL (nms L2) ∧ Below wr.heap.size wr wz) := fun wy k => by
                    have hT := (HQ.out.below k).tab
                    refine (keys_at r g K h2 L2 wy hT).mono ?_
                    rintro e wz ⟨rfl, hz, kz⟩
                    rw [← hNL]
                    exact ⟨rfl, SrcT.of_block hz (by rw [nms_length]; exact hNL.symm) (by rw [hNL]; have := hT.inv.max; unfold maxLen; omega), k.trans (kz.mono k.size)⟩
                  have C26 : Hid (∀ wy, Below wr.heap.size wr wy → Calls Try.prog 26 #[.pointer (some ⟨r2, 0, none⟩)] wy fun e wz => ∃ ta tc, e = .returned (.slice ta NL tc) ∧ SrcT wz ta NL tc (nms L2) ∧ Below wr.heap.size wr wz ∧ Below wy.heap.size wy wz) := fun wy k => by
                    have hR := (HQ.out.below k).ref.reads
                    rw [← hNL] at hR
                    refine (rkeys_at r2 g2 NL L2 wy hR).mono ?_
                    rintro e wz ⟨ta, tc, rfl, hz, kz⟩
                    exact ⟨ta, tc, rfl, hz, k.trans (kz.mono k.size), kz⟩
                  have C24 : Hid (∀ wy a1 c1 a2 c2, Below wr.heap.size wr wy → SrcT wy a1 NL c1 (nms L2) → SrcT wy a2 NL c2 (nms L2) → Calls Try.prog 24 #[.slice a1 NL c1, .slice a2 NL c2] wy fun e wz => e = .returned (.bool true) ∧ Below wr.heap.size wr wz) := fun wy a1 c1 a2 c2 k h1 h2 => by
                    refine (same_texts wy a1 a2 NL c1 NL c2 (nms L2) h1 h2).mono ?_
                    rintro e wz ⟨rfl, kz⟩
                    exact ⟨rfl, k.trans (kz.mono k.size)⟩
                  generalize used L2 = U at C21 C22
                  have HTC : Hid (∀ wy, Below wr.heap.size wr wy → wy.cell? ⟨r2, 1, none⟩ = some (.int .i64 (h2 : Nat))) := fun wy k => (HQ.out.below k).ref.cellR.2.1
                  have hc5 := HTC.out _ (Below.refl _ _)
                  have u3 : (!(((U : Nat) : Int) == ((U : Nat) : Int))) = false := by simp
                  have u4 : (!(((h2 : Nat) : Int) == ((h2 : Nat) : Int))) = false := by simp
                  clear hNL
                  go_wp2_with fail
                  go_region_held3 (fun w' => w'.cell? ⟨r2, 1, none⟩ = some (.int .i64 (h2 : Nat))) (first | assumption | go_keep) (first
                    | (go_at_call 24; refine (C24.out _ _ _ _ _ K10.out T9b.out T10.out).mono ?_; rintro e w11 ⟨rfl, k11⟩; have K11 := hide k11; have hc11 := HTC.out w11 k11; clear k11)
                    | (go_at_call 26; refine (C26.out _ K9.out).mono ?_; rintro e w10 ⟨ta, tc, rfl, t10, k10, kk10⟩; have K10 := hide k10; have T10 := hide t10; have T9b := hide (T9.out.below kk10); have hc10 := HTC.out w10 k10; clear k10 t10 kk10)
                    | (go_at_call 25; refine (C25.out _ K8.out).mono ?_; rintro e w9 ⟨rfl, t9, k9⟩; have K9 := hide k9; have T9 := hide t9; have hc9 := HTC.out w9 k9; clear k9 t9)
                    | (go_at_call 23; refine (C23.out _ K7.out).mono ?_; rintro e w8 ⟨rfl, k8⟩; have K8 := hide k8; have hc8 := HTC.out w8 k8; clear k8)
                    | (go_at_call 22; refine (C22.out _ K6.out).mono ?_; rintro e w7 ⟨rfl, k7⟩; have K7 := hide k7; have hc7 := HTC.out w7 k7; clear k7)
                    | (go_at_call 21; refine (C21.out _ (by first | exact (Below.refl _ _).drew | exact Below.refl _ _)).mono ?_; rintro e w6 ⟨rfl, k6⟩; have K6 := hide k6; have hc6 := HTC.out w6 k6; clear k6))
                  all_goals
                    have HBE := hide (HQ.out.below K11.out)
                    clear C21 C22 C23 C24 C25 C26 HTC hc5 hc6 hc7 hc8 hc9 hc10 hc11 T9 T10 T9b K6 K7 K8 K9 K10 K11 HQ
                    go_wp2_with fail
                    go_roundw
                    case rel => exact ⟨i + 1, r, g, L2, h2, by omega, by go_num, rfl, HBE⟩
                    case measure => simp [intOf]; omega
      · have hd : decide ((i : Int) < (len : Int)) = false := decide_eq_false (by omega)
        have HWK := hide (works_at wr)
        go_wp2_with fail
        refine HWK.out.mono ?_
        rintro e w4 ⟨rfl, k4⟩
        have K4 := hide (HB.out.bel.trans (k4.mono HB.out.bel.size))
        clear k4
        go_wp2_with fail
        go_ret
        exact ⟨rfl, K4.out⟩
end Go.Proofs.Ytcihkdmndpdmoaa
