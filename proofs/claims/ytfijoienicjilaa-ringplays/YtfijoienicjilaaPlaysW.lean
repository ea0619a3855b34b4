/-
  The walk of RingPlays: whatever the arguments hold (each slice of bytes of at most 2^47 bytes), the call answers true and turns nothing that was there.
-/
import Derived.Test.YtfijoienicjilaaR
set_option linter.unusedSimpArgs false
set_option linter.unusedVariables false
namespace Go.Proofs.Ytfijoienicjilaa
open Go.RowKit

/-- The i-th of the calls that came in. -/
def ActAt (w : World) (b o i : Nat) : Prop := ∃ kind n a l c zs, w.cell? ⟨b, o + i * 3, none⟩ = some (.int .i64 kind) ∧ w.cell? ⟨b, o + i * 3 + 1, none⟩ = some (.int .i64 n) ∧ w.cell? ⟨b, o + i * 3 + 2, none⟩ = some (.slice a l c) ∧ IsRow .u8 w a l c zs ∧ l ≤ 140737488355328

/-- The calls that came in. -/
def IsActs (w : World) (a : Option Addr) (len cap : Nat) : Prop := len ≤ cap ∧ cap ≤ maxLen ∧ (0 < len → ∃ b o, a = some ⟨b, o, none⟩ ∧ b < w.heap.size ∧ ∀ i, i < len → ActAt w b o i)

set_option maxRecDepth 100000 in
set_option maxHeartbeats 1000000 in
theorem plays_bad (a0 : Int) (v1 : Value) (w : World) (h : a0 < 0 ∨ 65536 < a0) :
    Calls Try.prog 3 #[.int .i64 a0, v1] w fun e w' => e = .returned (.bool true) ∧ Below w.heap.size w w' := by
  go_enter Try.func3, Try.ntmps3
  go_wp2_with fail
  refine (new_bad a0 _ h).mono ?_
  rintro e u2 ⟨rfl, rfl⟩
  go_wp2_with fail
  refine (refnew_bad a0 _ h).mono ?_
  rintro e u2 ⟨rfl, rfl⟩
  go_wp2_with fail
  go_ret
  exact ⟨rfl, Below.refl _ _⟩

/-- What holds at each round's head. -/
structure Both (w wr : World) (y n r g : Nat) (ic oc : Int) (q : List Int) (h : Nat) (v : Value) : Prop where
  ring : IsRing wr r g n ic oc q
  ref : IsRef wr y n ic oc q h v
  below : Below w.heap.size w wr
  r0 : w.heap.size ≤ r
  g0 : w.heap.size ≤ g
  y0 : w.heap.size ≤ y
  h0 : w.heap.size ≤ h
  rg : r ≠ g
  ry : r ≠ y
  rh : r ≠ h
  gy : g ≠ y
  gh : g ≠ h

theorem IsRef.keep {w w' : World} {y n : Nat} {i o : Int} {l : List Int} {h : Nat} {v : Value} (r : IsRef w y n i o l h v) (hy : w'.heap[y]? = w.heap[y]?) (hh : h < w.heap.size → w'.heap[h]? = w.heap[h]?) : IsRef w' y n i o l h v :=
  ⟨by rw [hy]; exact r.head, r.own.keep hh, r.ne, r.byte, r.i0, r.i1, r.o0, r.o1, r.fits, r.max⟩

theorem IsRef.lt {w : World} {y n : Nat} {i o : Int} {l : List Int} {h : Nat} {v : Value} (r : IsRef w y n i o l h v) : y < w.heap.size := lt_of_some r.head

/-- A nil slice of the reference lies nowhere. -/
theorem IsRef.refresh {w : World} {y n : Nat} {i o : Int} {l : List Int} {h : Nat} {v : Value} (r : IsRef w y n i o l h v) (S N : Nat) (hS : (v = .slice none 0 0 ∧ l = []) ∨ h < S) (hN : N ≠ y) : ∃ h', IsRef w y n i o l h' v ∧ ((h' = h ∧ h' < S) ∨ h' = N) := by
  rcases hS with ⟨e1, e2⟩ | hS
  · exact ⟨N, ⟨r.head, Or.inl ⟨e1, e2⟩, hN, r.byte, r.i0, r.i1, r.o0, r.o1, r.fits, r.max⟩, Or.inr rfl⟩
  · exact ⟨h, r, Or.inl ⟨rfl, hS⟩⟩

theorem IsRef.at_ {w : World} {y n : Nat} {i o : Int} {l : List Int} {h : Nat} {v : Value} (r : IsRef w y n i o l h v) : (v = .slice none 0 0 ∧ l = []) ∨ h < w.heap.size := by
  rcases r.own with h | h
  · exact Or.inl h
  · exact Or.inr h.lt

theorem Both.step {w wr W : World} {y n r g : Nat} {ic oc : Int} {q : List Int} {h : Nat} {v : Value} (b : Both w wr y n r g ic oc q h v) (hb : Below wr.heap.size wr W) : Both w W y n r g ic oc q h v :=
  ⟨b.ring.keep (hb.block _ b.ring.size_lt.1) (hb.block _ b.ring.size_lt.2), b.ref.keep (hb.block _ b.ref.lt) (fun hl => hb.block _ hl), b.below.trans (hb.mono b.below.size), b.r0, b.g0, b.y0, b.h0, b.rg, b.ry, b.rh, b.gy, b.gh⟩

theorem Both.drewN {w wr : World} {y n r g : Nat} {ic oc : Int} {q : List Int} {h : Nat} {v : Value} (b : Both w wr y n r g ic oc q h v) (k : Nat) : Both w (wr.drewN k) y n r g ic oc q h v :=
  ⟨b.ring.keep rfl rfl, b.ref.keep rfl (fun _ => rfl), below_drewN b.below k, b.r0, b.g0, b.y0, b.h0, b.rg, b.ry, b.rh, b.gy, b.gh⟩

/-- Writes into a block that is neither of both's turn nothing of both. -/
theorem Both.write {w W W' : World} {y n r g : Nat} {ic oc : Int} {q : List Int} {h : Nat} {v : Value} (b : Both w W y n r g ic oc q h v) (A C : Nat) (k : Kept C C W W') (hC : A < C) (hr : r < A) (hg : g < A) (hy : y < A) (hS : (v = .slice none 0 0 ∧ q = []) ∨ h < A) (hw : w.heap.size ≤ A) (hz : A < W.heap.size) : ∃ h', Both w W' y n r g ic oc q h' v := by
  have hkz := k.size
  obtain ⟨h1, hr1, hh1⟩ := b.ref.refresh A (W'.heap.size) hS (by omega)
  have hb0 := b.h0
  have h2 := b.ry
  have h3 := b.gy
  have h4 := b.rh
  have h5 := b.gh
  refine ⟨h1, b.ring.keep (k.block _ (by omega) (by omega) (by omega)) (k.block _ (by omega) (by omega) (by omega)), hr1.keep (k.block _ (by omega) (by omega) (by omega)) (fun hl => k.block _ hl (by omega) (by omega)), b.below.trans (k.below (by omega) (by omega) b.below.size), b.r0, b.g0, b.y0, by omega, b.rg, h2, by omega, h3, by omega⟩

theorem Both.write' {w W W' : World} {y n r g : Nat} {ic oc : Int} {q : List Int} {h : Nat} {v : Value} (b : Both w W y n r g ic oc q h v) (C : Nat) (k : Kept C C W W') (hr : r ≠ C) (hg : g ≠ C) (hy : y ≠ C) (hw : w.heap.size ≤ C) (hS : h ≠ C) : Both w W' y n r g ic oc q h v :=
  ⟨b.ring.keep (k.block _ b.ring.size_lt.1 hr hr) (k.block _ b.ring.size_lt.2 hg hg), b.ref.keep (k.block _ b.ref.lt hy hy) (fun hl => k.block _ hl hS hS), b.below.trans (k.below hw hw b.below.size), b.r0, b.g0, b.y0, b.h0, b.rg, b.ry, b.rh, b.gy, b.gh⟩

theorem put_t (r g n : Nat) (ic oc : Int) (q : List Int) (a : Option Addr) (len cap : Nat) (bs : List Int) (m : Nat) (hm : m = min len (n - q.length)) (w : World) (h : IsRing w r g n ic oc q) (hs : Src w a len cap bs) (hap : ∀ b o, a = some ⟨b, o, none⟩ → 0 < len → b ≠ g) :
    Calls Try.prog 12 #[.pointer (some ⟨r, 0, none⟩), .slice a len cap] w fun e w' => e = .returned (.int .i64 (m : Nat)) ∧ IsRing w' r g n ((ic + (m : Nat)) % 4294967296) oc (q ++ bs.take m) ∧ Kept r g w w' := by
  subst hm
  exact put_ring r g n ic oc q a len cap bs w h hs hap
theorem refput_t (y n : Nat) (inn out : Int) (l : List Int) (h : Nat) (v : Value) (a : Option Addr) (len cap : Nat) (bs : List Int) (m : Nat) (hm : m = min len (n - l.length)) (w : World) (hr : IsRef w y n inn out l h v) (hs : Src w a len cap bs) (hlm : len ≤ 9223372036854775807)
    (hap : ∀ b o, a = some ⟨b, o, none⟩ → 0 < len → b ≠ y ∧ b ≠ h) :
    Calls Try.prog 13 #[.pointer (some ⟨y, 0, none⟩), .slice a len cap] w fun e w' => ∃ h' v', e = .returned (.int .i64 (m : Nat)) ∧ IsRef w' y n ((inn + (m : Nat)) % 4294967296) out (l ++ bs.take m) h' v' ∧ (h' = h ∨ w.heap.size ≤ h') ∧ Kept y h w w' := by
  subst hm
  exact refput y n inn out l h v a len cap bs w hr hs hlm hap

theorem peek_all' (r g n : Nat) (ic oc : Int) (q : List Int) (w : World) (h : IsRing w r g n ic oc q) :
    Calls Try.prog 17 #[.pointer (some ⟨r, 0, none⟩), .int .i64 65536] w fun e w' => e = .returned (.slice (some ⟨w.heap.size, 0, none⟩) q.length q.length) ∧ Fresh w w' q := by
  have hp := peek_ring r g n ic oc 65536 q w h
  have hf := h.fits
  rw [show min (65536 : Int).toNat q.length = q.length by omega, List.take_length] at hp
  exact hp

theorem take_t (r g n : Nat) (ic oc k : Int) (q : List Int) (t : Nat) (ht : t = min k.toNat q.length) (w : World) (h : IsRing w r g n ic oc q) :
    Calls Try.prog 15 #[.pointer (some ⟨r, 0, none⟩), .int .i64 k] w fun e w' => e = .returned (.slice (some ⟨w.heap.size, 0, none⟩) t t) ∧ w'.heap[w.heap.size]? = some (.cells (vals (q.take t)).toArray 5) ∧ IsRing w' r g n ic ((oc + (t : Nat)) % 4294967296) (q.drop t) ∧ Kept r g w w' := by
  subst ht
  exact take_ring r g n ic oc k q w h
theorem drop_t (r g n : Nat) (ic oc k : Int) (q : List Int) (t : Nat) (ht : t = min k.toNat q.length) (w : World) (h : IsRing w r g n ic oc q) :
    Calls Try.prog 19 #[.pointer (some ⟨r, 0, none⟩), .int .i64 k] w fun e w' => e = .returned (.int .i64 (t : Nat)) ∧ IsRing w' r g n ic ((oc + (t : Nat)) % 4294967296) (q.drop t) ∧ Kept r g w w' := by
  subst ht
  exact drop_ring r g n ic oc k q w h
theorem peek_t (r g n : Nat) (ic oc k : Int) (q : List Int) (t : Nat) (ht : t = min k.toNat q.length) (w : World) (h : IsRing w r g n ic oc q) :
    Calls Try.prog 17 #[.pointer (some ⟨r, 0, none⟩), .int .i64 k] w fun e w' => e = .returned (.slice (some ⟨w.heap.size, 0, none⟩) t t) ∧ Fresh w w' (q.take t) := by
  subst ht
  exact peek_ring r g n ic oc k q w h
theorem refpeek_t (y n : Nat) (inn out k : Int) (l : List Int) (h : Nat) (v : Value) (t : Nat) (ht : t = min k.toNat l.length) (w : World) (hr : IsRef w y n inn out l h v) :
    Calls Try.prog 18 #[.pointer (some ⟨y, 0, none⟩), .int .i64 k] w fun e w' => ∃ h' c, e = .returned (.slice (some ⟨h', 0, none⟩) t c) ∧ Src w' (some ⟨h', 0, none⟩) t c (l.take t) ∧ w.heap.size ≤ h' ∧ Below w.heap.size w w' := by
  subst ht
  refine (refpeek y n inn out k l h v w hr).mono ?_
  rintro e w' ⟨h', v', rfl, ho, hh, hb⟩
  obtain ⟨c, ev, hs⟩ := ho.src (fun x hx => hr.byte x (List.mem_of_mem_take hx))
  rw [List.length_take, show min (min k.toNat l.length) l.length = min k.toNat l.length by omega] at ev hs
  exact ⟨h', c, by rw [ev], hs, hh, hb⟩
theorem reftake_t (y n : Nat) (inn out k : Int) (l : List Int) (h : Nat) (v : Value) (t : Nat) (ht : t = min k.toNat l.length) (w : World) (hr : IsRef w y n inn out l h v) :
    Calls Try.prog 16 #[.pointer (some ⟨y, 0, none⟩), .int .i64 k] w fun e w' => ∃ h' v' ho c, e = .returned (.slice (some ⟨ho, 0, none⟩) t c) ∧ Src w' (some ⟨ho, 0, none⟩) t c (l.take t) ∧ w.heap.size ≤ ho ∧
      IsRef w' y n inn ((out + (t : Nat)) % 4294967296) (l.drop t) h' v' ∧ w.heap.size ≤ h' ∧ Kept y y w w' := by
  subst ht
  refine (reftake y n inn out k l h v w hr).mono ?_
  rintro e w' ⟨h', v', ho, vo, rfl, hown, hh, hr', hh', hk⟩
  obtain ⟨c, ev, hs⟩ := hown.src (fun x hx => hr.byte x (List.mem_of_mem_take hx))
  rw [List.length_take, show min (min k.toNat l.length) l.length = min k.toNat l.length by omega] at ev hs
  exact ⟨h', v', ho, c, by rw [ev], hs, hh, hr', hh', hk⟩

set_option maxRecDepth 100000 in
set_option maxHeartbeats 2000000 in
theorem plays_good (n : Nat) (hn : n ≤ 65536) (a1 : Option Addr) (len1 cap1 : Nat) (w : World) (w1 : IsActs w a1 len1 cap1) :
    Calls Try.prog 3 #[.int .i64 n, .slice a1 len1 cap1] w fun e w' => e = .returned (.bool true) ∧ Below w.heap.size w w' := by
  have l1m : len1 ≤ 9223372036854775807 := by have := w1.1; have := w1.2.1; unfold maxLen at this; omega
  have X1 := hide w1.2.2
  clear w1
  go_enter Try.func3, Try.ntmps3
  go_wp2_with fail
  refine (new_ring n _ hn).mono ?_
  rintro e u1 ⟨rfl, hr, hb⟩
  have HB1 := hide hb
  have HR1 := hide hr
  have hlt1 := hr.size_lt
  have hsz1 := hb.size
  clear hr hb
  go_wp2_with fail
  refine (refnew_good n _ hn).mono ?_
  rintro e u2 ⟨rfl, hr, hb, hz⟩
  obtain ⟨y, hy⟩ : ∃ y, y = u1.heap.size := ⟨_, rfl⟩
  rw [← hy] at hr hb hz ⊢
  have HBO : Hid (Both w u2 y n (w.heap.size + 1) w.heap.size 0 0 [] (y + 1) (.slice none 0 0)) := ⟨HR1.out.keep (hb.block _ (by omega)) (hb.block _ (by omega)), hr, HB1.out.trans (hb.mono (by omega)), by omega, by omega, by omega, by omega, by omega, by omega, by omega, by omega, by omega⟩
  clear hr hb hz hy hsz1 HB1 HR1
  go_wp2_with fail
  go_loopw [5, 9] (fun pr i wr => ∃ (k r g : Nat) (ic oc : Int) (q : List Int) (h : Nat) (v : Value), k ≤ len1 ∧ pr = .pointer (some ⟨r, 0, none⟩) ∧ i = .int .i64 k ∧ Hid (Both w wr y n r g ic oc q h v)) (fun _ i _ => len1 - (intOf i).toNat)
  case atStart => exact ⟨0, _, _, _, _, _, _, _, Nat.zero_le _, rfl, rfl, HBO⟩
  case round =>
    obtain ⟨k, r, g, ic, oc, q, h, v, hk, rfl, rfl, HO⟩ := hrel
    have hlr := HO.out.ring.size_lt
    have hft := HO.out.ring.fits
    by_cases hlt : k < len1
    · obtain ⟨b1, o1, e1, hb1, hrow⟩ := X1.out (by omega)
      subst e1
      obtain ⟨kind, an, a, l, c, zs, c0, c1, c2, hrw, hl47⟩ := hrow k hlt
      have d0 : wr.cell? ⟨b1, o1 + k * 3, none⟩ = some (.int .i64 kind) := (HO.out.below.cell (p := ⟨b1, o1 + k * 3, none⟩) hb1).trans c0
      have d1 : wr.cell? ⟨b1, o1 + k * 3 + 1, none⟩ = some (.int .i64 an) := (HO.out.below.cell (p := ⟨b1, o1 + k * 3 + 1, none⟩) hb1).trans c1
      have d2 : wr.cell? ⟨b1, o1 + k * 3 + 2, none⟩ = some (.slice a l c) := (HO.out.below.cell (p := ⟨b1, o1 + k * 3 + 2, none⟩) hb1).trans c2
      have HW := hide hrw
      clear hrow c0 c1 c2 hrw
      go_wp2_with fail
      refine (among kind 6 (by omega) (by omega) _).mono ?_
      rintro e W ⟨kd, hkd, rfl, hW⟩
      have hszw := HO.out.below.size
      have hylt := HO.out.ref.lt
      have hcase := HO.out.ref.at_
      have HC := hide hcase
      have hbW : Below wr.heap.size wr W := by rw [← hW]; exact (Below.refl _ _).alloc (Nat.le_refl _) _
      have HBW := hide hbW
      have HOW : Hid (Both w W y n r g ic oc q h v) := HO.out.step hbW
      obtain ⟨A, hA⟩ : ∃ A, A = wr.heap.size := ⟨_, rfl⟩
      have hWs : W.heap.size = A + 1 := by rw [← hW, hA]; simp
      have hblk : W.heap[A]? = some (.cells #[.int .i64 kind, .int .i64 an, .slice a l c] 32) := by rw [← hW, hA]; exact alloc_new _ _
      have f1 : W.cell? ⟨A, 1, none⟩ = some (.int .i64 an) := by simp [World.cell?, hblk]
      have f2 : W.cell? ⟨A, 2, none⟩ = some (.slice a l c) := by simp [World.cell?, hblk]
      rw [hW] at *
      rw [← hA] at hszw hylt hlr hcase ⊢
      have HCA : Hid ((v = .slice none 0 0 ∧ q = []) ∨ h < A) := hcase
      have HAB := hide hblk
      have hWA : A < W.heap.size := by omega
      have hWB : W.heap.size ≤ A + 1 := by omega
      clear hW hbW hA hblk hcase HC hWs
      have hkd6 : kd = 0 ∨ kd = 1 ∨ kd = 2 ∨ kd = 3 ∨ kd = 4 ∨ kd = 5 := by omega
      rcases hkd6 with rfl | rfl | rfl | rfl | rfl | rfl
      · have hbsl := (row_len HW.out).1
        have HSA := hide (row_src HW.out)
        have HOA : Hid (∀ b o, a = some ⟨b, o, none⟩ → 0 < l → b < w.heap.size) := fun b o e h0 => row_old HW.out h0 b o e
        generalize zs.take l = bs at hbsl HSA
        obtain ⟨m, hm⟩ : ∃ m, m = min l (n - q.length) := ⟨_, rfl⟩
        have HM := hide hm
        have HBL := hide hbsl
        have hlm : l ≤ 9223372036854775807 := by omega
        clear hm hbsl
        have hry := HOW.out.ry
        have hgy := HOW.out.gy
        have hrh := HOW.out.rh
        have hgh := HOW.out.gh
        have hr0 := HOW.out.r0
        have hg0 := HOW.out.g0
        have hy0 := HOW.out.y0
        have hh0 := HOW.out.h0
        have hrg := HOW.out.rg
        go_wp2_with fail
        refine (bytes_copy W a l c bs (HSA.out.keep fun b o e h0 => HOW.out.below.block b (HOA.out b o e h0)) hl47).mono ?_
        rintro e W1 ⟨hO, vO, rfl, ho1, hhO, hb1⟩
        obtain ⟨cO, eO, hsO⟩ := ho1.src HSA.out.byte
        obtain ⟨cO', curO, eO', hblkO, hlO, _, hszO, _⟩ := ho1
        rw [HBL.out] at eO hsO hlO
        rw [HBL.out] at eO'
        subst eO
        obtain rfl : cO = cO' := by simpa using eO'
        have HO1 : Hid (Both w W1 y n r g ic oc q h v) := HOW.out.step hb1
        have hz1 := hb1.size
        have hO1 : hO < W1.heap.size := lt_of_some hblkO
        have f2b : W1.cell? ⟨A, 2, none⟩ = some (.slice a l c) := (hb1.cell (p := ⟨A, 2, none⟩) hWA).trans f2
        have HSO := hide hsO
        have HBO1 := hide hblkO
        have HAP : Hid (∀ b o, (some ⟨hO, 0, none⟩ : Option Addr) = some ⟨b, o, none⟩ → 0 < l → b ≠ g) := fun b o e _ => by simp at e; omega
        have hAr : A ≠ r := by omega
        have hAg : A ≠ g := by omega
        have hAy : A ≠ y := by omega
        have hA1 : A < W1.heap.size := by omega
        have hyr : y ≠ r := by omega
        have hyg : y ≠ g := by omega
        have hhr : h ≠ r := by omega
        have hhg : h ≠ g := by omega
        have hy1 : y < W1.heap.size := by omega
        have hOr : hO ≠ r := by omega
        have hOg : hO ≠ g := by omega
        have hOy : hO ≠ y := by omega
        have HZO := hide hszO
        have hw1 : w.heap.size ≤ W1.heap.size := by omega
        clear eO' hsO hblkO hb1 hszO
        go_wp2_with fail
        go_region_held3 (fun w' => w'.cell? ⟨A, 2, none⟩ = some (.slice a l c)) (go_keep) (first
    | (go_at_call 12; refine (put_t r g n ic oc q (some ⟨hO, 0, none⟩) l cO bs m HM.out _ ?_ ?_ HAP.out).mono ?_; exact HO1.out.ring.keep rfl rfl; exact HSO.out.keep (fun _ _ _ _ => rfl); rintro e W2 ⟨rfl, hr2, hk2⟩; have hk2' : Kept r g W1 W2 := ⟨hk2.os, hk2.tape, hk2.output, hk2.size, hk2.block⟩; have f2c : W2.cell? ⟨A, 2, none⟩ = some (.slice a l c) := (World.cell?_of_block (w := W1) (hk2'.block A hA1 hAr hAg)).trans f2b; have hz2 := hk2'.size; have hy2 : IsRef W2 y n ic oc q h v := HO1.out.ref.keep (hk2'.block y hy1 hyr hyg) (fun hl => hk2'.block h hl hhr hhg); obtain ⟨h2, hy2', hh2⟩ := hy2.refresh A W2.heap.size HCA.out (Nat.ne_of_gt (Nat.lt_of_lt_of_le hy1 hz2)); have hb2 : Below w.heap.size w W2 := HO1.out.below.trans (hk2'.below hr0 hg0 hw1); have HK2 := hide hk2'; have HR2 := hide hr2; have HY2 := hide hy2'; have HB2 := hide hb2; clear hk2 hk2' hr2 hy2 hy2' hb2)
    | (go_at_call 13; refine (refput_t y n ic oc q h2 v a l c bs m HM.out W2 HY2.out ?_ hlm ?_).mono ?_; exact HSA.out.keep (fun b o e h0 => HB2.out.block b (HOA.out b o e h0)); exact (fun b o e h0 => ⟨by have := HOA.out b o e h0; omega, by have := HOA.out b o e h0; omega⟩); rintro e W3 ⟨h3, v3, rfl, hy3, hh3, hk3⟩; have hAh : A ≠ h2 := (by omega); have f2d : W3.cell? ⟨A, 2, none⟩ = some (.slice a l c) := (World.cell?_of_block (w := W2) (hk3.block A (Nat.lt_of_lt_of_le hA1 hz2) hAy hAh)).trans f2c; have hz3 := hk3.size; have HK3 := hide hk3; have HY3 := hide hy3; clear hk3 hy3)
    | (go_at_call 14; refine (same_bytes W3 _ _ _ _ _ _ bs ?_ ?_).mono ?_; exact (HSO.out.keep (fun b o e h0 => by simp at e; rw [← e.1, HK3.out.block hO (by omega) hOy (by omega), HK2.out.block hO hO1 hOr hOg])); exact HSA.out.keep (fun b o e h0 => by have hbb := HOA.out b o e h0; rw [HK3.out.block b (by omega) (by omega) (by omega), HB2.out.block b hbb]); rintro e W4 ⟨rfl, rfl⟩))
        all_goals
          have hrr := HR2.out.size_lt
          have hblk3 : W3.heap[hO]? = some (.cells curO 5 (0, 0)) := by rw [HK3.out.block hO (by omega) hOy (by omega), HK2.out.block hO hO1 hOr hOg]; exact HBO1.out
          have HB3 : Hid (Both w W3 y n r g ((ic + (m : Nat)) % 4294967296) oc (q ++ bs.take m) h3 v3) :=
            ⟨HR2.out.keep (HK3.out.block _ (by omega) (by omega) (by omega)) (HK3.out.block _ (by omega) (by omega) (by omega)), HY3.out, HB2.out.trans (HK3.out.below (by omega) (by omega) (by omega)), hr0, hg0, hy0, by omega, hrg, hry, by omega, hgy, by omega⟩
          have h3O : h3 ≠ hO := by omega
          have HK3' : Hid (∃ cur, W3.heap[hO]? = some (.cells cur 5 (0, 0)) ∧ cur.size = cO) := ⟨_, hblk3, HZO.out⟩
          clear hblk3
          go_wp2_with fail
          go_loopw [13] (fun i wx => ∃ (j : Nat), j ≤ l ∧ i = .int .i64 j ∧ Hid (∃ cur, wx.heap[hO]? = some (.cells cur 5 (0, 0)) ∧ cur.size = cO) ∧ Hid (Kept hO hO W3 wx)) (fun i _ => l - (intOf i).toNat)
          case atStart => exact ⟨0, Nat.zero_le _, rfl, HK3', Kept.refl _ _ _⟩
          case round =>
            obtain ⟨j, hj, rfl, HJ, HKJ⟩ := hrel
            by_cases hjt : j < l
            · obtain ⟨cur, hcur, hcsz⟩ := HJ.out
              have hu : wr.cell? ⟨hO, j, none⟩ = some cur[j] := by simp [World.cell?, hcur, show j < cur.size by omega]
              have hfz : wr.frozen? ⟨hO, j, none⟩ = false := by simp [World.frozen?, hcur]
              have HCU := hide hcur
              have HCS := hide hcsz
              generalize cur[j] = u at hu
              clear hcur hcsz
              go_wp2_with fail
              go_roundw
              case rel => exact ⟨j + 1, by omega, by go_num, ⟨_, heap_setCell_same HCU.out _ _, by rw [Array.size_setIfInBounds]; exact HCS.out⟩, HKJ.out.set _ _⟩
              case measure => simp [intOf]; omega
            · have HB : Hid (Both w wr y n r g ((ic + (m : Nat)) % 4294967296) oc (q ++ bs.take m) h3 v3) := HB3.out.write' hO HKJ.out (Ne.symm hOr) (Ne.symm hOg) (Ne.symm hOy) (by omega) h3O
              go_wp2_with fail
              refine (told_true _ _ _ _ _ _ _ _ _ wr HB.out.ring HB.out.ref).mono ?_
              rintro e W9 ⟨rfl, k9, rfl⟩
              go_wp2_with fail
              go_roundw
              case rel => exact ⟨k + 1, _, _, _, _, _, _, _, by omega, rfl, by go_num, HB.out.drewN _⟩
              case measure => simp [intOf]; omega
      · obtain ⟨t, ht⟩ : ∃ t, t = min an.toNat q.length := ⟨_, rfl⟩
        have HT := hide ht
        have htq : t ≤ q.length := by omega
        clear ht
        have hry := HOW.out.ry
        have hgy := HOW.out.gy
        have hrh := HOW.out.rh
        have hgh := HOW.out.gh
        have hr0 := HOW.out.r0
        have hg0 := HOW.out.g0
        have hy0 := HOW.out.y0
        have hrg := HOW.out.rg
        have hAr : A ≠ r := by omega
        have hAg : A ≠ g := by omega
        have hAy : A ≠ y := by omega
        have hyr : y ≠ r := by omega
        have hyg : y ≠ g := by omega
        have hhr : h ≠ r := by omega
        have hhg : h ≠ g := by omega
        have hyW : y < W.heap.size := by omega
        go_wp2_with fail
        go_region_held3 (fun w' => w'.cell? ⟨A, 1, none⟩ = some (.int .i64 an)) (go_keep) (first
    | (go_at_call 15; refine (take_t r g n ic oc an q t HT.out _ ?_).mono ?_; exact HOW.out.ring.keep rfl rfl; rintro e W2 ⟨rfl, hg2, hr2, hk2⟩; have hk2' : Kept r g W W2 := ⟨hk2.os, hk2.tape, hk2.output, hk2.size, hk2.block⟩; have hg2' : W2.heap[W.heap.size]? = some (.cells (vals (q.take t)).toArray 5) := hg2; have f1b : W2.cell? ⟨A, 1, none⟩ = some (.int .i64 an) := (World.cell?_of_block (w := W) (hk2'.block A hWA hAr hAg)).trans f1; have hA2 : A < W2.heap.size := Nat.lt_of_lt_of_le hWA hk2'.size; have HK2 := hide hk2'; have HG2 := hide hg2'; have HR2 := hide hr2; clear hk2 hk2' hg2 hg2' hr2)
    | (go_at_call 16; refine (reftake_t y n ic oc an q h v t HT.out W2 ?_).mono ?_; exact HOW.out.ref.keep (HK2.out.block y hyW hyr hyg) (fun hl => HK2.out.block h hl hhr hhg); rintro e W3 ⟨h3, v3, ho3, c3, rfl, hs3, hho3, hy3, hh3, hk3⟩; have f1c : W3.cell? ⟨A, 1, none⟩ = some (.int .i64 an) := (World.cell?_of_block (w := W2) (hk3.block A hA2 hAy hAy)).trans f1b; have HK3 := hide hk3; have HY3 := hide hy3; have HS3 := hide hs3; clear hk3 hy3 hs3)
    | (go_at_call 14; refine (same_bytes W3 _ _ _ _ _ _ (q.take t) ?_ HS3.out).mono ?_; exact src_block ((HK3.out.block W.heap.size (lt_of_some HG2.out) (Nat.ne_of_gt hyW) (Nat.ne_of_gt hyW)).trans HG2.out) (by rw [List.length_take]; omega) (by omega) (fun x hx => HOW.out.ring.bytes x (List.mem_of_mem_take hx)); rintro e W4 ⟨rfl, rfl⟩))
        all_goals
          have hz2 := HK2.out.size
          have hz3 := HK3.out.size
          have HB : Hid (Both w W3 y n r g ic ((oc + (t : Nat)) % 4294967296) (q.drop t) h3 v3) :=
            ⟨HR2.out.keep (HK3.out.block _ (by omega) (by omega) (by omega)) (HK3.out.block _ (by omega) (by omega) (by omega)), HY3.out, (HOW.out.below.trans (HK2.out.below (by omega) (by omega) HOW.out.below.size)).trans (HK3.out.below (by omega) (by omega) (by omega)), hr0, hg0, hy0, by omega, hrg, hry, by omega, hgy, by omega⟩
          go_wp2_with fail
          refine (told_true _ _ _ _ _ _ _ _ _ W3 HB.out.ring HB.out.ref).mono ?_
          rintro e W9 ⟨rfl, k9, rfl⟩
          go_wp2_with fail
          go_roundw
          case rel => exact ⟨k + 1, _, _, _, _, _, _, _, by omega, rfl, by go_num, HB.out.drewN _⟩
          case measure => simp [intOf]; omega
      · obtain ⟨t, ht⟩ : ∃ t, t = min an.toNat q.length := ⟨_, rfl⟩
        have HT := hide ht
        have htq : t ≤ q.length := by omega
        clear ht
        have hry := HOW.out.ry
        have hgy := HOW.out.gy
        have hrh := HOW.out.rh
        have hgh := HOW.out.gh
        have hr0 := HOW.out.r0
        have hg0 := HOW.out.g0
        have hy0 := HOW.out.y0
        have hrg := HOW.out.rg
        go_wp2_with fail
        refine (peek_t r g n ic oc an q t HT.out W HOW.out.ring).mono ?_
        rintro e W2 ⟨rfl, hf2⟩
        obtain ⟨C, hC⟩ : ∃ C, C = W.heap.size := ⟨_, rfl⟩
        have hblk2 : W2.heap[C]? = some (.cells (vals (q.take t)).toArray 5) := by rw [hC]; exact hf2.1
        have hb2 := hf2.2
        rw [← hC] at hb2 ⊢
        have hCA : A < C := by omega
        have hC1 : C < W2.heap.size := lt_of_some hblk2
        have HO2 : Hid (Both w W2 y n r g ic oc q h v) := HOW.out.step (by rw [← hC]; exact hb2)
        have f1b : W2.cell? ⟨A, 1, none⟩ = some (.int .i64 an) := (hb2.cell (p := ⟨A, 1, none⟩) hCA).trans f1
        have HK2 := hide hblk2
        clear hf2 hb2 hC hblk2
        go_wp2_with fail
        refine (refpeek_t y n ic oc an q h v t HT.out W2 HO2.out.ref).mono ?_
        rintro e W3 ⟨h3, c3, rfl, hs3, hh3, hb3⟩
        have HO3 : Hid (Both w W3 y n r g ic oc q h v) := HO2.out.step hb3
        have hblk3 : W3.heap[C]? = some (.cells (vals (q.take t)).toArray 5) := by rw [hb3.block C hC1]; exact HK2.out
        have HS3 := hide hs3
        have HP3 : Hid (Src W3 (some ⟨C, 0, none⟩) t t (q.take t)) := src_block hblk3 (by rw [List.length_take]; omega) (by omega) (fun x hx => HO3.out.ring.bytes x (List.mem_of_mem_take hx))
        have HK3 : Hid (∃ cur, W3.heap[C]? = some (.cells cur 5 (0, 0)) ∧ cur.size = t) := ⟨_, hblk3, by rw [List.size_toArray, vals_length, List.length_take]; omega⟩
        have hb3z := hb3.size
        clear hs3 hb3 hblk3
        go_wp2_with fail
        refine (same_bytes W3 _ _ _ _ _ _ _ HP3.out HS3.out).mono ?_
        rintro e W4 ⟨rfl, rfl⟩
        go_wp2_with fail
        go_loopw [15] (fun i wx => ∃ (j : Nat), j ≤ t ∧ i = .int .i64 j ∧ Hid (∃ cur, wx.heap[C]? = some (.cells cur 5 (0, 0)) ∧ cur.size = t) ∧ Hid (Kept C C W3 wx)) (fun i _ => t - (intOf i).toNat)
        case atStart => exact ⟨0, Nat.zero_le _, rfl, HK3, Kept.refl _ _ _⟩
        case round =>
          obtain ⟨j, hj, rfl, HJ, HKJ⟩ := hrel
          by_cases hjt : j < t
          · obtain ⟨cur, hcur, hcsz⟩ := HJ.out
            have hu : wr.cell? ⟨C, j, none⟩ = some cur[j] := by simp [World.cell?, hcur, show j < cur.size by omega]
            have hfz : wr.frozen? ⟨C, j, none⟩ = false := by simp [World.frozen?, hcur]
            have HCU := hide hcur
            have HCS := hide hcsz
            generalize cur[j] = u at hu
            clear hcur hcsz
            go_wp2_with fail
            go_roundw
            case rel => exact ⟨j + 1, by omega, by go_num, ⟨_, heap_setCell_same HCU.out _ _, by rw [Array.size_setIfInBounds]; exact HCS.out⟩, HKJ.out.set _ _⟩
            case measure => simp [intOf]; omega
          · obtain ⟨h5, hb5⟩ := HO3.out.write A C HKJ.out hCA hlr.1 hlr.2 hylt HCA.out hszw (by omega)
            have HB := hide hb5
            clear hb5
            go_wp2_with fail
            refine (told_true _ _ _ _ _ _ _ _ _ wr HB.out.ring HB.out.ref).mono ?_
            rintro e W9 ⟨rfl, k9, rfl⟩
            go_wp2_with fail
            go_roundw
            case rel => exact ⟨k + 1, _, _, _, _, _, _, _, by omega, rfl, by go_num, HB.out.drewN _⟩
            case measure => simp [intOf]; omega
      · obtain ⟨t, ht⟩ : ∃ t, t = min an.toNat q.length := ⟨_, rfl⟩
        have HT := hide ht
        have htq : t ≤ q.length := by omega
        clear ht
        have hry := HOW.out.ry
        have hgy := HOW.out.gy
        have hrh := HOW.out.rh
        have hgh := HOW.out.gh
        have hr0 := HOW.out.r0
        have hg0 := HOW.out.g0
        have hy0 := HOW.out.y0
        have hrg := HOW.out.rg
        have hAr : A ≠ r := by omega
        have hAg : A ≠ g := by omega
        have hAy : A ≠ y := by omega
        have hyr : y ≠ r := by omega
        have hyg : y ≠ g := by omega
        have hhr : h ≠ r := by omega
        have hhg : h ≠ g := by omega
        have hyW : y < W.heap.size := by omega
        go_wp2_with fail
        go_region_held3 (fun w' => w'.cell? ⟨A, 1, none⟩ = some (.int .i64 an)) (go_keep) (first
    | (go_at_call 19; refine (drop_t r g n ic oc an q t HT.out _ ?_).mono ?_; exact HOW.out.ring.keep rfl rfl; rintro e W2 ⟨rfl, hr2, hk2⟩; have hk2' : Kept r g W W2 := ⟨hk2.os, hk2.tape, hk2.output, hk2.size, hk2.block⟩; have f1b : W2.cell? ⟨A, 1, none⟩ = some (.int .i64 an) := (World.cell?_of_block (w := W) (hk2'.block A hWA hAr hAg)).trans f1; have hA2 : A < W2.heap.size := Nat.lt_of_lt_of_le hWA hk2'.size; have HK2 := hide hk2'; have HR2 := hide hr2; clear hk2 hk2' hr2)
    | (go_at_call 16; refine (reftake_t y n ic oc an q h v t HT.out W2 ?_).mono ?_; exact HOW.out.ref.keep (HK2.out.block y hyW hyr hyg) (fun hl => HK2.out.block h hl hhr hhg); rintro e W3 ⟨h3, v3, ho3, c3, rfl, hs3, hho3, hy3, hh3, hk3⟩; have f1c : W3.cell? ⟨A, 1, none⟩ = some (.int .i64 an) := (World.cell?_of_block (w := W2) (hk3.block A hA2 hAy hAy)).trans f1b; have HK3 := hide hk3; have HY3 := hide hy3; have HS3 := hide hs3; clear hk3 hy3 hs3))
        all_goals
          have hz2 := HK2.out.size
          have hz3 := HK3.out.size
          have HB : Hid (Both w W3 y n r g ic ((oc + (t : Nat)) % 4294967296) (q.drop t) h3 v3) :=
            ⟨HR2.out.keep (HK3.out.block _ (by omega) (by omega) (by omega)) (HK3.out.block _ (by omega) (by omega) (by omega)), HY3.out, (HOW.out.below.trans (HK2.out.below (by omega) (by omega) HOW.out.below.size)).trans (HK3.out.below (by omega) (by omega) (by omega)), hr0, hg0, hy0, by omega, hrg, hry, by omega, hgy, by omega⟩
          go_wp2_with fail
          refine (told_true _ _ _ _ _ _ _ _ _ W3 HB.out.ring HB.out.ref).mono ?_
          rintro e W9 ⟨rfl, k9, rfl⟩
          go_wp2_with fail
          go_roundw
          case rel => exact ⟨k + 1, _, _, _, _, _, _, _, by omega, rfl, by go_num, HB.out.drewN _⟩
          case measure => simp [intOf]; omega
      · obtain ⟨av, cv, ev, _, _⟩ := HOW.out.ref.own.form
        subst ev
        go_wp2_with fail
        refine (clear_ring r g n ic oc q W HOW.out.ring).mono ?_
        rintro e W2 ⟨rfl, hr2, hk2⟩
        have hs2 := hk2.size
        have hry := HOW.out.ry
        have hgy := HOW.out.gy
        have hrh := HOW.out.rh
        have hgh := HOW.out.gh
        have hr0 := HOW.out.r0
        have hg0 := HOW.out.g0
        have hy0 := HOW.out.y0
        have hy2 : IsRef W2 y n ic oc q h (.slice av q.length cv) := HOW.out.ref.keep (hk2.block y (by omega) (by omega) (by omega)) (fun hl => hk2.block h hl (by omega) (by omega))
        have f3 := (rhd_cells hy2.head).2.1
        have HY2 := hide hy2
        have HR2 := hide hr2
        have HB2 : Hid (Below w.heap.size w W2) := HOW.out.below.trans (hk2.below (by omega) (by omega) HOW.out.below.size)
        clear hy2 hr2 hk2
        go_wp2_with fail
        refine (reftake_t y n ic oc q.length q h _ q.length (by omega) W2 HY2.out).mono ?_
        rintro e W3 ⟨h3, v3, ho3, c3, rfl, _, _, hy3, hh3, hk3⟩
        rw [List.drop_length] at hy3
        have HB : Hid (Both w W3 y n r g ic ((oc + (q.length : Nat)) % 4294967296) [] h3 v3) :=
          ⟨HR2.out.keep (hk3.block _ (by omega) (by omega) (by omega)) (hk3.block _ (by omega) (by omega) (by omega)), hy3, HB2.out.trans (hk3.below (by omega) (by omega) HB2.out.size), hr0, hg0, hy0, by omega, HOW.out.rg, hry, by omega, hgy, by omega⟩
        clear hy3 hk3
        go_wp2_with fail
        refine (told_true _ _ _ _ _ _ _ _ _ W3 HB.out.ring HB.out.ref).mono ?_
        rintro e W9 ⟨rfl, k9, rfl⟩
        go_wp2_with fail
        go_roundw
        case rel => exact ⟨k + 1, _, _, _, _, _, _, _, by omega, rfl, by go_num, HB.out.drewN _⟩
        case measure => simp [intOf]; omega
      · have kc := fun (w : World) (C : Array Value) (n c : Nat) => Lib.run_convert_bytes_const (P := Try.prog) w 30 5 C n c Try.underlying30 Try.underlying5
        have hry := HOW.out.ry
        have hgy := HOW.out.gy
        have hrh := HOW.out.rh
        have hgh := HOW.out.gh
        have hr0 := HOW.out.r0
        have hg0 := HOW.out.g0
        have hy0 := HOW.out.y0
        have hrg := HOW.out.rg
        go_wp2_with fail
        refine (clone_ring r g n ic oc q W HOW.out.ring).mono ?_
        rintro e W2 ⟨rfl, hc2, hb2⟩
        have hcl := hc2.size_lt
        obtain ⟨C, hC⟩ : ∃ C, C = W.heap.size := ⟨_, rfl⟩
        rw [← hC] at hc2 hcl ⊢
        have hCA : A < C := by omega
        have HB2 : Hid (Below w.heap.size w W2) := HOW.out.below.trans (hb2.mono HOW.out.below.size)
        have HR2 : Hid (IsRing W2 r g n ic oc q) := HOW.out.ring.keep (hb2.block _ (by omega)) (hb2.block _ (by omega))
        have HY2 : Hid (IsRef W2 y n ic oc q h v) := HOW.out.ref.keep (hb2.block _ (by omega)) (fun hl => hb2.block _ hl)
        have HC2 := hide hc2
        have hb2z := hb2.size
        clear hc2 hb2 hC
        go_wp2_with fail
        have hr3 : IsRing (W2.alloc (.cells (vals [115, 112, 111, 105, 108, 116]).toArray 5 (6, 7))) r g n ic oc q := HR2.out.keep (Below.heap_alloc _ _ _ (by omega)) (Below.heap_alloc _ _ _ (by omega))
        refine (put_ring r g n ic oc q (some ⟨W2.heap.size, 0, none⟩) 6 6 [115, 112, 111, 105, 108, 116] (W2.alloc (.cells (vals [115, 112, 111, 105, 108, 116]).toArray 5 (6, 7))) hr3
          (src_block (alloc_new W2 _) rfl (by omega) (by decide)) (fun b o e _ => by simp at e; omega)).mono ?_
        clear hr3
        rintro e W3 ⟨rfl, hr3, hk3⟩
        have hk3z := hk3.size
        rw [World.size_alloc] at hk3z
        obtain ⟨ic3, q3, hr3'⟩ : ∃ ic' q', IsRing W3 r g n ic' oc q' := ⟨_, _, hr3⟩
        have HR3 := hide hr3'
        have HB3 : Hid (Below w.heap.size w W3) := (HB2.out.alloc HB2.out.size _).trans (hk3.below (by omega) (by omega) (by have := HB2.out.size; simp; omega))
        have HC3 : Hid (IsRing W3 C (C + 1) n ic oc q) := HC2.out.keep (by rw [hk3.block C (by simp; omega) (by omega) (by omega), Below.heap_alloc _ _ _ (by omega)]) (by rw [hk3.block (C + 1) (by simp; omega) (by omega) (by omega), Below.heap_alloc _ _ _ (by omega)])
        have HY3 : Hid (IsRef W3 y n ic oc q h v) := HY2.out.keep (by rw [hk3.block y (by simp; omega) (by omega) (by omega), Below.heap_alloc _ _ _ (by omega)]) (fun hl => by rw [hk3.block h (by simp; omega) (by omega) (by omega), Below.heap_alloc _ _ _ hl])
        clear hr3 hr3' hk3 HR2 HB2 HC2 HY2
        go_wp2_with fail
        refine (clear_ring r g n ic3 oc q3 W3 HR3.out).mono ?_
        rintro e W4 ⟨rfl, _, hk4⟩
        have hk4z := hk4.size
        have hy4 : IsRef W4 y n ic oc q h v := HY3.out.keep (hk4.block y (by omega) (by omega) (by omega)) (fun hl => hk4.block h hl (by omega) (by omega))
        obtain ⟨h4, hy4', hh4⟩ := hy4.refresh A W4.heap.size HCA.out (by omega)
        have hh0 := HOW.out.h0
        have HB : Hid (Both w W4 y n C (C + 1) ic oc q h4 v) :=
          ⟨HC3.out.keep (hk4.block _ (by omega) (by omega) (by omega)) (hk4.block _ (by omega) (by omega) (by omega)), hy4', HB3.out.trans (hk4.below (by omega) (by omega) HB3.out.size), by omega, by omega, hy0, by omega, by omega, by omega, by omega, by omega, by omega⟩
        clear hy4 hy4' hk4
        go_wp2_with fail
        refine (told_true _ _ _ _ _ _ _ _ _ W4 HB.out.ring HB.out.ref).mono ?_
        rintro e W9 ⟨rfl, k9, rfl⟩
        go_wp2_with fail
        go_roundw
        case rel => exact ⟨k + 1, _, _, _, _, _, _, _, by omega, rfl, by go_num, HB.out.drewN _⟩
        case measure => simp [intOf]; omega
    · obtain ⟨av, cv, ev, z1, z2⟩ := HO.out.ref.own.form
      clear z1 z2
      subst ev
      have f3 := (rhd_cells HO.out.ref.head).2.1
      have hyl := HO.out.ref.lt
      have HYB := hide HO.out.ref.byte
      obtain ⟨av', cv', ev', hsv, z3⟩ := HO.out.ref.own.src HYB.out
      clear z3
      obtain ⟨e1, _, e2⟩ : av = av' ∧ True ∧ cv = cv' := by simpa using ev'
      subst e1 e2
      have HSV := hide hsv
      clear hsv ev'
      go_wp2_with fail
      go_region_held3 (fun w' => w'.cell? ⟨y, 1, none⟩ = some (.slice av q.length cv)) (go_keep) (first
    | (go_at_call 17; refine (peek_all' r g n ic oc q _ ?_).mono ?_; exact HO.out.ring.keep rfl rfl; rintro e W2 ⟨rfl, hf2⟩; have hf2' : Fresh wr W2 q := ⟨hf2.1, hf2.2.os, hf2.2.tape, hf2.2.output, hf2.2.size, hf2.2.block⟩; have f3b : W2.cell? ⟨y, 1, none⟩ = some (.slice av q.length cv) := (hf2'.2.cell (p := ⟨y, 1, none⟩) hyl).trans f3; have HF2 := hide hf2'; clear hf2 hf2')
    | (go_at_call 14; refine (same_bytes W2 _ _ _ _ _ _ q ?_ ?_).mono ?_; exact src_block HF2.out.1 rfl (by omega) HYB.out; exact HSV.out.keep (fun b o e h0 => HF2.out.2.block b (by obtain ⟨b', o', e', hc⟩ := HSV.out.lies h0; rw [e] at e'; simp at e'; have hbb := lt_of_cell (hc 0 h0); simp at hbb; omega)); rintro e W3 ⟨rfl, rfl⟩)
    | (go_at_call 22; refine (told_true r g y n ic oc q h _ W2 (HO.out.step HF2.out.2).ring (HO.out.step HF2.out.2).ref).mono ?_; rintro e W3 ⟨rfl, k3, rfl⟩)
    | (go_at_call 23; refine (works_true _).mono ?_; rintro e W4 ⟨rfl, hb4⟩; have hb4' : Below W2.heap.size W2 W4 := ⟨hb4.os, hb4.tape, hb4.output, hb4.size, hb4.block⟩; have f3d : W4.cell? ⟨y, 1, none⟩ = some (.slice av q.length cv) := (hb4'.cell (p := ⟨y, 1, none⟩) (Nat.lt_of_lt_of_le hyl HF2.out.2.size)).trans f3b; have HB4 := hide hb4'; clear hb4 hb4'))
      all_goals
        go_wp2
        go_ret
        exact ⟨rfl, (HO.out.below.trans (HF2.out.2.mono HO.out.below.size)).trans (HB4.out.mono (Nat.le_trans HO.out.below.size HF2.out.2.size))⟩

end Go.Proofs.Ytfijoienicjilaa
