/-
  The exported calls of package ring, at a ring that New made: each does to the ring in memory what the document says of its list of bytes; conditions as each theorem has them.
-/
import Derived.Test.YtjojhnkibgkleaaRE
import Derived.Deep.RegionWith
import Derived.Deep.RegionHeld3
set_option linter.unusedSimpArgs false
set_option linter.unusedVariables false
set_option maxRecDepth 8000
namespace Go.Proofs.Ytjojhnkibgkleaa
open Go.RowKit

set_option maxHeartbeats 1000000 in
theorem drop_ring (r g n : Nat) (ic oc k : Int) (q : List Int) (w : World) (h : IsRing w r g n ic oc q) :
    Calls Try.prog 81 #[.pointer (some ⟨r, 0, none⟩), .int .i64 k] w fun e w' => e = .returned (.int .i64 (min k.toNat q.length : Nat)) ∧
      IsRing w' r g n ic ((oc + (min k.toNat q.length : Nat)) % 4294967296) (q.drop (min k.toNat q.length)) ∧ Kept r g w w' := by
  obtain ⟨p, zs, h⟩ := h
  obtain ⟨h0, h1, h2, h3, h4, h5⟩ := hdr_cells h.head
  have hmx := h.shape.max
  have hft := h.shape.fits
  have hpl := h.shape.place
  have H := hide h
  clear h
  obtain ⟨m, hm⟩ : ∃ m, m = min k.toNat q.length := ⟨_, rfl⟩
  rw [← hm]
  have hin : inside k q.length = (m : Nat) := by rw [inside_nat, hm]
  have hmq : m ≤ q.length := by omega
  have HI := hide hin
  clear hm hin
  go_enter Try.func81, Try.ntmps81
  go_wp2_with fail
  refine (isMade_at r true _ h0).mono ?_
  rintro e w1 ⟨rfl, rfl⟩
  go_wp2_with fail
  refine (len_at r g n _ ic p oc q.length _ H.out.head H.out.shape.diff).mono ?_
  rintro e w1 ⟨rfl, k1, rfl⟩
  go_wp2_with fail
  refine (within_any k q.length _).mono ?_
  rintro e w1 ⟨rfl, rfl⟩
  rw [HI.out]
  go_wp2_with fail
  go_region_with (go_at_call 95; refine (advance_out r g n (ix p q.length n : Nat) ic p oc m _ ?_ ?_ ?_ hmx ?_ ?_).mono ?_; exact H.out.head; omega; omega; omega; omega; rintro e w2 ⟨rfl, hb2, hk2⟩; have HB2 := hide hb2; have HK2 := hide hk2; clear hb2 hk2)
  go_wp2
  go_ret
  have hb2 := HB2.out
  rw [goOn_ix0 hpl (by omega)] at hb2
  exact ⟨rfl, ⟨ix p m n, zs, by rw [List.length_drop, drop_ip hpl hmq hft]; exact hb2, HK2.out.of_drewN.at_ H.out.arr (Ne.symm H.out.shape.ne) (Ne.symm H.out.shape.ne), drop_shape H.out.shape hmq⟩, HK2.out.of_drewN.wide (Or.inl rfl)⟩

/-- What Peek hands out lies in a new block. -/
def Fresh (w w' : World) (l : List Int) : Prop := w'.heap[w.heap.size]? = some (.cells (vals l).toArray 5) ∧ Below w.heap.size w w'

theorem Fresh.of_drewN {w w' : World} {k : Nat} {l : List Int} (h : Fresh (w.drewN k) w' l) : Fresh w w' l := ⟨h.1, ⟨h.2.os, h.2.tape, h.2.output, h.2.size, h.2.block⟩⟩

theorem read_ring (r g n p m : Nat) (ic oc : Int) (zs q : List Int) (w : World) (h : RingAt w r g n p ic oc zs q) (hm : m ≤ q.length) :
    Calls Try.prog 90 #[.pointer (some ⟨r, 4, none⟩), .slice (some ⟨g, 0, none⟩) n n, .int .i64 m] w fun e w' => e = .returned (.slice (some ⟨w.heap.size, 0, none⟩) m m) ∧ Fresh w w' (q.take m) := by
  have hc := (hdr_cells h.head).2.2.2.2.1
  have hpl := h.shape.place
  have hft := h.shape.fits
  by_cases h1 : m ≤ n - p
  · refine (read_one r g n p m zs w hc h.arr h.shape.len h.shape.max hpl h1).mono ?_
    rintro e w' ⟨he, ha, hb⟩
    rw [peek_one h.shape hm h1] at ha
    exact ⟨he, ha, hb⟩
  · refine (read_two r g n p m zs w hc h.arr h.shape.len h.shape.max (by omega) (by omega) (by omega)).mono ?_
    rintro e w' ⟨he, ha, hb⟩
    rw [peek_two h.shape hm (by omega)] at ha
    exact ⟨he, ha, hb⟩

set_option maxHeartbeats 1000000 in
theorem peek_ring (r g n : Nat) (ic oc k : Int) (q : List Int) (w : World) (h : IsRing w r g n ic oc q) :
    Calls Try.prog 69 #[.pointer (some ⟨r, 0, none⟩), .int .i64 k] w fun e w' => e = .returned (.slice (some ⟨w.heap.size, 0, none⟩) (min k.toNat q.length) (min k.toNat q.length)) ∧ Fresh w w' (q.take (min k.toNat q.length)) := by
  obtain ⟨p, zs, h⟩ := h
  obtain ⟨h0, h1, h2, h3, h4, h5⟩ := hdr_cells h.head
  have hlt := lt_of_some h.head
  have H := hide h
  clear h
  obtain ⟨m, hm⟩ : ∃ m, m = min k.toNat q.length := ⟨_, rfl⟩
  rw [← hm]
  have hin : inside k q.length = (m : Nat) := by rw [inside_nat, hm]
  have hmq : m ≤ q.length := by omega
  have HI := hide hin
  clear hm hin
  go_enter Try.func69, Try.ntmps69
  go_wp2_with fail
  refine (isMade_at r true _ h0).mono ?_
  rintro e w1 ⟨rfl, rfl⟩
  go_wp2_with fail
  go_region_held3 (fun w' => w'.cell? ⟨r, 1, none⟩ = some (.slice (some ⟨g, 0, none⟩) n n)) (go_keep) (first
    | (go_at_call 68; refine (len_at r g n (ix p q.length n : Nat) ic p oc q.length _ ?_ H.out.shape.diff).mono ?_; exact H.out.head; rintro e w1 ⟨rfl, k1, rfl⟩)
    | (go_at_call 91; refine (within_any k q.length _).mono ?_; rintro e w1 ⟨rfl, rfl⟩; rw [HI.out])
    | (go_at_call 90; refine (read_ring r g n p m ic oc zs q _ ?_ hmq).mono ?_; exact ⟨H.out.head, H.out.arr, H.out.shape⟩; rintro e w2 ⟨rfl, hf2⟩; have hc2 : w2.cell? ⟨r, 1, none⟩ = some (.slice (some ⟨g, 0, none⟩) n n) := (hf2.2.cell (p := ⟨r, 1, none⟩) hlt).trans h1; have HF2 := hide hf2; clear hf2))
  all_goals
    go_wp2
    go_ret
    exact ⟨rfl, HF2.out.of_drewN⟩

end Go.Proofs.Ytjojhnkibgkleaa
