/-
  The exported calls Put, Take, Clear, New and Clone of package ring, at a ring that New made: each does to the ring in memory what the document says of its list of bytes; conditions as each theorem has them.
-/
import Derived.Test.YtjojhnkibgkleaaRF
set_option linter.unusedSimpArgs false
set_option linter.unusedVariables false
set_option maxRecDepth 8000
namespace Go.Proofs.Ytjojhnkibgkleaa
open Go.RowKit

theorem Src.take {w : World} {a : Option Addr} {len cap : Nat} {bs : List Int} (h : Src w a len cap bs) {m : Nat} (hm : m ≤ len) : Src w a m cap (bs.take m) := by
  have hl := h.hlen
  have hc := h.hcap
  refine ⟨by rw [List.length_take]; omega, by omega, h.hmax, h.nil, fun h0 => ?_, fun x hx => h.byte x (List.mem_of_mem_take hx)⟩
  obtain ⟨b, o, e, hi⟩ := h.lies (by omega)
  refine ⟨b, o, e, fun i hi' => ?_⟩
  rw [hi i (by omega), getD_take', if_pos (by omega)]

theorem Src.keep {w w' : World} {a : Option Addr} {len cap : Nat} {bs : List Int} (h : Src w a len cap bs) (hk : ∀ b o, a = some ⟨b, o, none⟩ → 0 < len → w'.heap[b]? = w.heap[b]?) : Src w' a len cap bs := by
  refine ⟨h.hlen, h.hcap, h.hmax, h.nil, fun h0 => ?_, h.byte⟩
  obtain ⟨b, o, e, hi⟩ := h.lies h0
  refine ⟨b, o, e, fun i hi' => ?_⟩
  rw [World.cell?_of_block (w := w) (hk b o e h0)]
  exact hi i hi'

theorem Src.drewN {w : World} {a : Option Addr} {len cap : Nat} {bs : List Int} (h : Src w a len cap bs) (k : Nat) : Src (w.drewN k) a len cap bs := h.keep fun _ _ _ _ => rfl

theorem write_ring (r g n p : Nat) (ic oc : Int) (zs q : List Int) (a : Option Addr) (len cap : Nat) (bs : List Int) (w : World) (h : RingAt w r g n p ic oc zs q) (hs : Src w a len cap bs) (hm : q.length + len ≤ n)
    (hap : ∀ b o, a = some ⟨b, o, none⟩ → 0 < len → b ≠ g) :
    Calls Try.prog 93 #[.pointer (some ⟨r, 2, none⟩), .slice (some ⟨g, 0, none⟩) n n, .slice a len cap] w fun e w' => e = .returned (.tuple #[]) ∧ IsRing w' r g n ((ic + len) % 4294967296) oc (q ++ bs) ∧ Kept r g w w' := by
  have hpl := h.shape.place
  have hft := h.shape.fits
  have hl := hs.hlen
  have hx := ix_lt hpl hft
  by_cases h1 : len ≤ n - ix p q.length n
  · refine (write_one r g n (ix p q.length n) ic p oc zs a len cap bs w h.head h.arr h.shape.ne h.shape.len h.shape.max hx hs h1).mono ?_
    rintro e w' ⟨he, hb, hg, hk⟩
    rw [goOn_ix hpl hm] at hb
    have hsh := put_one h.shape hs.byte (by omega) (by omega)
    rw [hl] at hsh
    exact ⟨he, ⟨p, _, by rw [List.length_append, hl]; exact hb, hg, hsh⟩, hk⟩
  · refine (write_two r g n (ix p q.length n) ic p oc zs a len cap bs w h.head h.arr h.shape.ne h.shape.len h.shape.max (by omega) hs (by omega) (by omega) (fun b o e => hap b o e (by omega))).mono ?_
    rintro e w' ⟨he, hb, hg, hk⟩
    rw [goOn_ix hpl hm] at hb
    have hsh := put_two h.shape hs.byte (by omega) (by omega)
    rw [hl] at hsh
    exact ⟨he, ⟨p, _, by rw [List.length_append, hl]; exact hb, hg, hsh⟩, hk⟩

theorem IsRing.cell1 {w : World} {r g n : Nat} {ic oc : Int} {q : List Int} (h : IsRing w r g n ic oc q) : w.cell? ⟨r, 1, none⟩ = some (.slice (some ⟨g, 0, none⟩) n n) := by
  obtain ⟨p, zs, h⟩ := h
  exact (hdr_cells h.head).2.1

set_option maxHeartbeats 1000000 in
theorem put_ring (r g n : Nat) (ic oc : Int) (q : List Int) (a : Option Addr) (len cap : Nat) (bs : List Int) (w : World) (h : IsRing w r g n ic oc q) (hs : Src w a len cap bs) (hap : ∀ b o, a = some ⟨b, o, none⟩ → 0 < len → b ≠ g) :
    Calls Try.prog 79 #[.pointer (some ⟨r, 0, none⟩), .slice a len cap] w fun e w' => e = .returned (.int .i64 (min len (n - q.length) : Nat)) ∧
      IsRing w' r g n ((ic + (min len (n - q.length) : Nat)) % 4294967296) oc (q ++ bs.take (min len (n - q.length))) ∧ Kept r g w w' := by
  obtain ⟨p, zs, h⟩ := h
  obtain ⟨h0, h1, h2, h3, h4, h5⟩ := hdr_cells h.head
  have hlt := lt_of_some h.head
  have hmx := h.shape.max
  have hft := h.shape.fits
  have hlc := hs.hcap
  obtain ⟨m, hm⟩ : ∃ m, m = min len (n - q.length) := ⟨_, rfl⟩
  rw [← hm]
  have hin : inside len ((n : Int) - (q.length : Nat)) = (m : Nat) := by rw [← Int.ofNat_sub hft, inside_nat, hm]; simp
  have hml : m ≤ len := by omega
  have hmn : q.length + m ≤ n := by omega
  have hb1 : (0 : Int) ≤ (m : Int) := by omega
  have hb2 : (m : Int) ≤ (cap : Int) := by omega
  have HI := hide hin
  have H := hide h
  have HS := hide hs
  have HA := hide hap
  clear hm hin h hs hap
  go_enter Try.func79, Try.ntmps79
  go_wp2_with fail
  refine (isMade_at r true _ h0).mono ?_
  rintro e w1 ⟨rfl, rfl⟩
  go_wp2_with fail
  refine (free_at r g n _ ic p oc q.length _ H.out.head H.out.shape.diff hmx).mono ?_
  rintro e w1 ⟨rfl, k1, rfl⟩
  go_wp2_with fail
  refine (within_any _ _ _).mono ?_
  rintro e w1 ⟨rfl, rfl⟩
  rw [HI.out]
  go_wp2_with fail
  go_region_held3 (fun w' => w'.cell? ⟨r, 1, none⟩ = some (.slice (some ⟨g, 0, none⟩) n n)) (go_keep) (first
    | (go_at_call 93; refine (write_ring r g n p ic oc zs q a m cap (bs.take m) _ ?_ ?_ hmn (fun b o e h0 => HA.out b o e (Nat.lt_of_lt_of_le h0 hml))).mono ?_; exact ⟨H.out.head, H.out.arr, H.out.shape⟩; exact (HS.out.take hml).drewN _; rintro e w2 ⟨rfl, hf2, hk2⟩; have hc2 := hf2.cell1; have HF2 := hide hf2; have HK2 := hide hk2; clear hf2 hk2))
  all_goals
    go_wp2
    go_ret
    exact ⟨rfl, HF2.out, HK2.out.of_drewN⟩

set_option maxHeartbeats 1000000 in
theorem take_ring (r g n : Nat) (ic oc k : Int) (q : List Int) (w : World) (h : IsRing w r g n ic oc q) :
    Calls Try.prog 50 #[.pointer (some ⟨r, 0, none⟩), .int .i64 k] w fun e w' => e = .returned (.slice (some ⟨w.heap.size, 0, none⟩) (min k.toNat q.length) (min k.toNat q.length)) ∧ w'.heap[w.heap.size]? = some (.cells (vals (q.take (min k.toNat q.length))).toArray 5) ∧
      IsRing w' r g n ic ((oc + (min k.toNat q.length : Nat)) % 4294967296) (q.drop (min k.toNat q.length)) ∧ Kept r g w w' := by
  have H := hide h
  have hrl : r < w.heap.size := by obtain ⟨p, zs, h⟩ := h; exact lt_of_some h.head
  have hgl : g < w.heap.size := by obtain ⟨p, zs, h⟩ := h; exact lt_of_some h.arr
  clear h
  obtain ⟨m, hm⟩ : ∃ m, m = min k.toNat q.length := ⟨_, rfl⟩
  have hmq : m ≤ q.length := by omega
  have hpk := fun W => peek_ring r g n ic oc k q W
  rw [← hm] at hpk ⊢
  have HP := hide hpk
  clear hpk hm
  go_enter Try.func50, Try.ntmps50
  go_wp2_with fail
  refine (HP.out _ H.out).mono ?_
  rintro e w1 ⟨rfl, hf1⟩
  have HF1 := hide hf1
  clear hf1
  go_wp2_with fail
  have H1 : IsRing w1 r g n ic oc q := H.out.keep (HF1.out.2.block r hrl) (HF1.out.2.block g hgl)
  have hdr1 := drop_ring r g n ic oc m q w1 H1
  rw [Int.toNat_natCast, show min m q.length = m by omega] at hdr1
  refine hdr1.mono ?_
  clear hdr1 H1
  rintro e w2 ⟨rfl, hr2, hk2⟩
  have HR2 := hide hr2
  have HK2 := hide hk2
  clear hr2 hk2
  go_wp2_with fail
  go_ret
  exact ⟨rfl, HK2.out.at_ HF1.out.1 (by omega) (by omega), HR2.out, (Kept.of_below HF1.out.2).trans HK2.out⟩

theorem IsRing.size_lt {w : World} {r g n : Nat} {ic oc : Int} {q : List Int} (h : IsRing w r g n ic oc q) : r < w.heap.size ∧ g < w.heap.size := by
  obtain ⟨p, zs, h⟩ := h
  exact ⟨lt_of_some h.head, lt_of_some h.arr⟩

set_option maxHeartbeats 1000000 in
theorem clear_ring (r g n : Nat) (ic oc : Int) (q : List Int) (w : World) (h : IsRing w r g n ic oc q) :
    Calls Try.prog 82 #[.pointer (some ⟨r, 0, none⟩)] w fun e w' => e = .returned (.tuple #[]) ∧ IsRing w' r g n ic ((oc + q.length) % 4294967296) [] ∧ Kept r g w w' := by
  obtain ⟨p, zs, h⟩ := h
  have H := hide h
  clear h
  go_enter Try.func82, Try.ntmps82
  go_wp2_with fail
  refine (len_at r g n _ ic p oc q.length _ H.out.head H.out.shape.diff).mono ?_
  rintro e w1 ⟨rfl, k1, rfl⟩
  go_wp2_with fail
  have hdr1 := drop_ring r g n ic oc q.length q (w.drewN k1) ⟨p, zs, H.out.head, H.out.arr, H.out.shape⟩
  rw [Int.toNat_natCast, show min q.length q.length = q.length by omega, List.drop_length] at hdr1
  refine hdr1.mono ?_
  clear hdr1
  rintro e w2 ⟨rfl, hr2, hk2⟩
  have HR2 := hide hr2
  have HK2 := hide hk2
  clear hr2 hk2
  go_wp2_with fail
  go_end0
  exact ⟨rfl, HR2.out, HK2.out.of_drewN⟩

theorem new_ring (n : Nat) (w : World) (h : n ≤ 65536) :
    Calls Try.prog 39 #[.int .i64 n] w fun e w' => e = .returned (.tuple #[.pointer (some ⟨w.heap.size + 1, 0, none⟩), .int .i64 0]) ∧ IsRing w' (w.heap.size + 1) w.heap.size n 0 0 [] ∧ Below w.heap.size w w' := by
  refine (new_good n w h).mono ?_
  rintro e w' ⟨he, h1, h2, h3⟩
  have e0 : ix 0 0 n = 0 := by unfold ix; split <;> omega
  exact ⟨he, ⟨0, zeros n, by simpa [e0] using h2, h1, new_shape _ n h⟩, h3⟩

theorem clone_ring (r g n : Nat) (ic oc : Int) (q : List Int) (w : World) (h : IsRing w r g n ic oc q) :
    Calls Try.prog 75 #[.pointer (some ⟨r, 0, none⟩)] w fun e w' => e = .returned (.pointer (some ⟨w.heap.size, 0, none⟩)) ∧ IsRing w' w.heap.size (w.heap.size + 1) n ic oc q ∧ Below w.heap.size w w' := by
  obtain ⟨p, zs, h⟩ := h
  refine (clone_at r g n _ ic p oc zs w h.head h.arr h.shape.len h.shape.max).mono ?_
  rintro e w' ⟨he, h1, h2, h3⟩
  have s := h.shape
  exact ⟨he, ⟨p, zs, h2, h1, by omega, s.len, s.max, s.place, s.fits, s.diff, s.ic0, s.ic1, s.oc0, s.oc1, s.lies, s.byte⟩, h3⟩

theorem len_ring (r g n : Nat) (ic oc : Int) (q : List Int) (w : World) (h : IsRing w r g n ic oc q) :
    Calls Try.prog 68 #[.pointer (some ⟨r, 0, none⟩)] w fun e w' => e = .returned (.int .i64 q.length) ∧ ∃ n, w' = w.drewN n := by
  obtain ⟨p, zs, h⟩ := h
  exact len_at r g n _ ic p oc q.length w h.head h.shape.diff

theorem cap_ring (r g n : Nat) (ic oc : Int) (q : List Int) (w : World) (h : IsRing w r g n ic oc q) :
    Calls Try.prog 94 #[.pointer (some ⟨r, 0, none⟩)] w fun e w' => e = .returned (.int .i64 n) ∧ w = w' := by
  obtain ⟨p, zs, h⟩ := h
  exact cap_at r g n _ ic p oc w h.head

theorem free_ring (r g n : Nat) (ic oc : Int) (q : List Int) (w : World) (h : IsRing w r g n ic oc q) :
    Calls Try.prog 80 #[.pointer (some ⟨r, 0, none⟩)] w fun e w' => e = .returned (.int .i64 (n - q.length)) ∧ ∃ n, w' = w.drewN n := by
  obtain ⟨p, zs, h⟩ := h
  exact free_at r g n _ ic p oc q.length w h.head h.shape.diff h.shape.max

end Go.Proofs.Ytjojhnkibgkleaa
