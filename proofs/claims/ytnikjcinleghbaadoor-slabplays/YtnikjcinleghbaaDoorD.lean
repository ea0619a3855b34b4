/-
  Put, Write and Read of package slab at a slab that New made; conditions as each theorem has them.
-/
import Derived.Test.YtnikjcinleghbaaDoorC
set_option linter.unusedSimpArgs false
set_option linter.unusedVariables false
namespace Go.Proofs.YtnikjcinleghbaaDoor
open Go.RowKit

theorem mem_splice {L cs : List Int} {o : Nat} {x : Int} (h : x ∈ splice L o cs) : x ∈ L ∨ x ∈ cs := by
  unfold splice at h
  simp at h
  rcases h with h | h | h
  · exact Or.inl (List.mem_of_mem_take h)
  · exact Or.inr h
  · exact Or.inl (List.mem_of_mem_drop h)

theorem mem_splice' {L cs : List Int} {o : Nat} {x : Int} (h : x ∈ splice L o cs) (h1 : ∀ x ∈ L, 0 ≤ x ∧ x < 256) (h2 : ∀ x ∈ cs, 0 ≤ x ∧ x < 256) : 0 ≤ x ∧ x < 256 := by
  rcases mem_splice h with h | h
  · exact h1 x h
  · exact h2 x h

theorem zeros_byte (n : Nat) : ∀ x ∈ zeros n, 0 ≤ x ∧ x < 256 := by
  intro x hx
  unfold zeros at hx
  rw [List.eq_of_mem_replicate hx]
  omega

theorem zeros_getD (n k : Nat) : (zeros n).getD k 0 = 0 := by
  unfold zeros
  simp only [List.getD, List.getElem?_replicate]
  split <;> rfl

/-- What lies in another block. -/
theorem other_block {zs cs : List Int} {k j sz o i : Nat} (hj : j ≠ k) (ho : o + cs.length ≤ sz) (hf : k * sz + o + cs.length ≤ zs.length) (hi : i < sz) : (splice zs (k * sz + o) cs).getD (j * sz + i) 0 = zs.getD (j * sz + i) 0 := by
  rw [getD_splice _ _ _ _ hf]
  rcases Nat.lt_or_gt_of_ne hj with h | h
  · have := piece_fits j k sz h
    rw [if_pos (by omega)]
  · have := piece_fits k j sz h
    rw [if_neg (by omega), if_neg (by omega)]

theorem own_block {zs cs : List Int} {k sz o i : Nat} (hf : k * sz + o + cs.length ≤ zs.length) : (splice zs (k * sz + o) cs).getD (k * sz + i) 0 = if i < o then zs.getD (k * sz + i) 0 else if i < o + cs.length then cs.getD (i - o) 0 else zs.getD (k * sz + i) 0 := by
  rw [getD_splice _ _ _ _ hf]
  by_cases h1 : i < o
  · rw [if_pos (by omega), if_pos h1]
  · rw [if_neg (by omega), if_neg h1]
    by_cases h2 : i < o + cs.length
    · rw [if_pos (by omega), if_pos h2, show k * sz + i - (k * sz + o) = i - o by omega]
    · rw [if_neg (by omega), if_neg h2]

set_option maxHeartbeats 1000000 in
theorem put_none (r g bl sz : Nat) (hs : List Bool) (zs : List Int) (b : Int) (w : World) (h : IsSlab w r g bl sz hs zs) (hb : heldAt hs b = false) :
    Calls Tryd.prog 13 #[.pointer (some ⟨r, 0, none⟩), .int .i64 b] w fun e w' => e = .returned (.int .i64 5) ∧ ∃ n, w' = w.drewN n := by
  obtain ⟨ws, h1, h2⟩ := h.mem
  obtain ⟨c0, c1, c2, c3, c4⟩ := hdr_cells h1 h2.len
  have HL := hide (isHeld_at r g bl sz hs zs b w h)
  rw [hb] at HL
  clear h1 h2 h c1 c2 c3 c4 hb
  go_enter Tryd.func13, Tryd.ntmps13
  go_wp2_with fail
  refine (isMade_at r true _ c0).mono ?_
  rintro e w1 ⟨rfl, rfl⟩
  go_wp2_with fail
  refine HL.out.mono ?_
  rintro e w1 ⟨rfl, n1, rfl⟩
  go_wp2_with fail
  go_ret
  exact ⟨rfl, n1, rfl⟩

set_option maxHeartbeats 1000000 in
theorem put_ok (r g bl sz : Nat) (hs : List Bool) (zs : List Int) (k : Nat) (w : World) (h : IsSlab w r g bl sz hs zs) (hk : k < bl) (hb : hs.getD k true = true) :
    Calls Tryd.prog 13 #[.pointer (some ⟨r, 0, none⟩), .int .i64 k] w fun e w' => e = .returned (.int .i64 0) ∧ IsSlab w' r g bl sz (hs.set k false) (splice zs (k * sz) (zeros sz)) ∧ Kept r g w w' := by
  obtain ⟨ws, h1, h2⟩ := h.mem
  obtain ⟨c0, c1, c2, c3, c4⟩ := hdr_cells h1 h2.len
  have hmb := h.mb
  have hl := h.len
  have HL := hide (isHeld_at r g bl sz hs zs k w h)
  rw [heldAt_nat hs k (by omega), hb] at HL
  have HP := hide (fun n => piece_at r g k bl sz (w.drewN n) hk h.mz c2 c4)
  have hfit : k * sz + sz ≤ zs.length := by rw [h.zlen]; exact piece_fits k bl sz hk
  have H1 := hide h1
  have H2 := hide h2
  have H := hide h
  have HN := hide hl
  have HFit := hide hfit
  clear h1 h2 h c1 c2 c3 c4 hb hl hfit
  obtain ⟨p, hp⟩ : ∃ p, p = k * sz := ⟨_, rfl⟩
  have HPP := hide hp
  rw [← hp] at HP HFit ⊢
  clear hp
  go_enter Tryd.func13, Tryd.ntmps13
  go_wp2_with fail
  refine (isMade_at r true _ c0).mono ?_
  rintro e w1 ⟨rfl, rfl⟩
  go_wp2_with fail
  refine HL.out.mono ?_
  rintro e w1 ⟨rfl, n1, rfl⟩
  go_wp2_with fail
  refine (HP.out n1).mono ?_
  rintro e w1 ⟨rfl, rfl⟩
  go_wp2_with fail
  obtain ⟨w2, hr, hg2, hk2⟩ := run_clear_seg (w.drewN n1) 0 g p sz sz zs H.out.arena HFit.out
  rw [hr]
  have HG2 := hide hg2
  have HK2 := hide hk2.of_drewN
  clear hg2 hk2 hr
  go_wp2_with fail
  refine (add_at r bl sz g k ws w2 (by omega) (HK2.out.at_ H1.out H.out.ne H.out.ne) H2.out.len H2.out.lt).mono ?_
  rintro e w3 ⟨rfl, hh, hk3⟩
  have HH := hide hh
  have HK3 : Hid (Kept r g w w3) := (HK2.out.wide (Or.inr rfl)).trans (hk3.wide (Or.inl rfl))
  have HA3 : Hid (w3.heap[g]? = some (.cells (vals (splice zs p (zeros sz))).toArray 5)) := hk3.at_ HG2.out (Ne.symm H.out.ne) (Ne.symm H.out.ne)
  clear hh hk3
  go_wp2_with fail
  go_ret
  have hlen := H.out.lt
  have hlz : (zeros sz).length = sz := zeros_length sz
  refine ⟨rfl, { H.out with mem := ⟨_, HH.out, H2.out.put k (by rw [HN.out]; omega) (by omega)⟩, arena := HA3.out, tab := H.out.tab.keep (HK3.out.block 0 hlen.2.2 (by have := H.out.r0; omega) (by have := H.out.g0; omega)), len := by rw [List.length_set, HN.out], zlen := by rw [length_splice _ _ _ (by rw [hlz]; exact HFit.out)]; exact H.out.zlen, clean := fun j hj hf i hi => ?_, byte := fun x hx => mem_splice' hx H.out.byte (zeros_byte sz) }, HK3.out⟩
  rw [getDb_set _ _ _ _ (by rw [HN.out]; omega)] at hf
  have hpf := HFit.out
  rw [HPP.out] at hpf ⊢
  have e0 : k * sz = k * sz + 0 := rfl
  rw [e0]
  by_cases hjk : k = j
  · subst hjk
    rw [own_block (by rw [hlz]; omega), if_neg (by omega), if_pos (by rw [hlz]; omega), zeros_getD]
  · rw [if_neg hjk] at hf
    rw [other_block (Ne.symm hjk) (by rw [hlz]; omega) (by rw [hlz]; omega) hi]
    exact H.out.clean j hj hf i hi

set_option maxHeartbeats 1000000 in
theorem write_none (r g bl sz : Nat) (hs : List Bool) (zs : List Int) (b a : Int) (v : Value) (w : World) (h : IsSlab w r g bl sz hs zs) (hb : heldAt hs b = false) :
    Calls Tryd.prog 16 #[.pointer (some ⟨r, 0, none⟩), .int .i64 b, .int .i64 a, v] w fun e w' => e = .returned (.int .i64 5) ∧ ∃ n, w' = w.drewN n := by
  obtain ⟨ws, h1, h2⟩ := h.mem
  obtain ⟨c0, c1, c2, c3, c4⟩ := hdr_cells h1 h2.len
  have HL := hide (isHeld_at r g bl sz hs zs b w h)
  rw [hb] at HL
  clear h1 h2 h c1 c2 c3 c4 hb
  go_enter Tryd.func16, Tryd.ntmps16
  go_wp2_with fail
  refine (isMade_at r true _ c0).mono ?_
  rintro e w1 ⟨rfl, rfl⟩
  go_wp2_with fail
  refine HL.out.mono ?_
  rintro e w1 ⟨rfl, n1, rfl⟩
  go_wp2_with fail
  go_ret
  exact ⟨rfl, n1, rfl⟩

set_option maxHeartbeats 1000000 in
theorem write_arg (r g bl sz : Nat) (hs : List Bool) (zs : List Int) (b a : Int) (ad : Option Addr) (len cap : Nat) (w : World) (h : IsSlab w r g bl sz hs zs) (hb : heldAt hs b = true) (hlen : len ≤ maxLen) (hi : inAt sz a len = false) :
    Calls Tryd.prog 16 #[.pointer (some ⟨r, 0, none⟩), .int .i64 b, .int .i64 a, .slice ad len cap] w fun e w' => e = .returned (.int .i64 2) ∧ ∃ n, w' = w.drewN n := by
  obtain ⟨ws, h1, h2⟩ := h.mem
  obtain ⟨c0, c1, c2, c3, c4⟩ := hdr_cells h1 h2.len
  have HL := hide (isHeld_at r g bl sz hs zs b w h)
  rw [hb] at HL
  have HI := hide (fun n => isWithin_at r sz a len (w.drewN n) c2 h.ms (by unfold maxLen at hlen; omega))
  rw [hi] at HI
  clear h1 h2 h c1 c2 c3 c4 hb hi
  go_enter Tryd.func16, Tryd.ntmps16
  go_wp2_with fail
  refine (isMade_at r true _ c0).mono ?_
  rintro e w1 ⟨rfl, rfl⟩
  go_wp2_with fail
  refine HL.out.mono ?_
  rintro e w1 ⟨rfl, n1, rfl⟩
  go_wp2_with fail
  refine (HI.out n1).mono ?_
  rintro e w1 ⟨rfl, rfl⟩
  go_wp2_with fail
  go_ret
  exact ⟨rfl, n1, rfl⟩

theorem IsSlab.wrote {w w' : World} {r g bl sz : Nat} {hs : List Bool} {zs : List Int} (h : IsSlab w r g bl sz hs zs) {k o : Nat} {bs : List Int} (hk : k < bl) (hb : hs.getD k true = true) (ho : o + bs.length ≤ sz) (hbs : ∀ x ∈ bs, 0 ≤ x ∧ x < 256)
    (hg : w'.heap[g]? = some (.cells (vals (splice zs (k * sz + o) bs)).toArray 5)) (hk' : Kept g g w w') : IsSlab w' r g bl sz hs (splice zs (k * sz + o) bs) := by
  obtain ⟨ws, h1, h2⟩ := h.mem
  have hf : k * sz + o + bs.length ≤ zs.length := by have := piece_fits k bl sz hk; rw [h.zlen]; omega
  refine { h with mem := ⟨ws, hk'.at_ h1 h.ne h.ne, h2⟩, arena := hg, tab := h.tab.keep (hk'.block 0 h.lt.2.2 (by have := h.g0; omega) (by have := h.g0; omega)), zlen := by rw [length_splice _ _ _ hf]; exact h.zlen, clean := fun j hj hf' i hi => ?_, byte := fun x hx => mem_splice' hx h.byte hbs }
  have hjk : j ≠ k := by rintro rfl; rw [hb] at hf'; cases hf'
  rw [other_block hjk ho hf hi]
  exact h.clean j hj hf' i hi

set_option maxHeartbeats 1000000 in
theorem write_lt (r g bl sz : Nat) (hs : List Bool) (zs : List Int) (k o : Nat) (ad : Option Addr) (len cap : Nat) (bs : List Int) (w : World) (h : IsSlab w r g bl sz hs zs) (hk : k < bl) (hb : hs.getD k true = true) (hS : Src w ad len cap bs) (ho : o + len ≤ sz) (hos : o < sz) :
    Calls Tryd.prog 16 #[.pointer (some ⟨r, 0, none⟩), .int .i64 k, .int .i64 o, .slice ad len cap] w fun e w' => e = .returned (.int .i64 0) ∧ IsSlab w' r g bl sz hs (splice zs (k * sz + o) bs) ∧ Kept g g w w' := by
  obtain ⟨ws, h1, h2⟩ := h.mem
  obtain ⟨c0, c1, c2, c3, c4⟩ := hdr_cells h1 h2.len
  have hms := h.ms
  have hl := h.len
  have HL := hide (isHeld_at r g bl sz hs zs k w h)
  rw [heldAt_nat hs k (by omega), hb] at HL
  have HP := hide (fun n => piece_at r g k bl sz (w.drewN n) hk h.mz c2 c4)
  have HI := hide (fun n => isWithin_at r sz (o : Int) len (w.drewN n) c2 h.ms (by omega))
  rw [show inAt sz (o : Int) len = true by unfold inAt; simp; omega] at HI
  have hfit : k * sz + o + len ≤ zs.length := by have := piece_fits k bl sz hk; rw [h.zlen]; omega
  have H := hide h
  have HB := hide hb
  have HFit := hide hfit
  have HS := hide hS
  have hlc := hS.hcap
  have hbl := hS.hlen
  have HBL := hide hbl
  clear h1 h2 h c1 c2 c3 c4 hb hl hfit hS hbl
  obtain ⟨p, hp⟩ : ∃ p, p = k * sz := ⟨_, rfl⟩
  have HPP := hide hp
  rw [← hp] at HP HFit ⊢
  clear hp
  go_enter Tryd.func16, Tryd.ntmps16
  go_wp2_with fail
  refine (isMade_at r true _ c0).mono ?_
  rintro e w1 ⟨rfl, rfl⟩
  go_wp2_with fail
  refine HL.out.mono ?_
  rintro e w1 ⟨rfl, n1, rfl⟩
  go_wp2_with fail
  refine (HI.out n1).mono ?_
  rintro e w1 ⟨rfl, rfl⟩
  go_wp2_with fail
  refine (HP.out n1).mono ?_
  rintro e w1 ⟨rfl, rfl⟩
  go_wp2_with fail
  obtain ⟨w2, hr, hg2, hk2⟩ := run_copy_seg (P := Tryd.prog) (w.drewN n1) 30 30 3 5 Tryd.underlying30 info5 (some ⟨g, p + o, none⟩) ad (sz - o) (sz - o) len cap g (p + o) (vals zs) 5 H.out.arena (vals bs) (by rw [vals_length, HBL.out]; show _ = min _ _; omega)
    (fun hpos => ⟨rfl, by
      rw [vals_length, HBL.out] at hpos
      obtain ⟨b', o', rfl, hc⟩ := HS.out.lies hpos
      refine ⟨_, rfl, fun j v hv => ?_⟩
      obtain ⟨hj, rfl⟩ := vals_at _ _ _ hv
      rw [add_none]
      exact hc j (by rw [← HBL.out]; exact hj)⟩) (by rw [vals_length, vals_length, HBL.out]; exact HFit.out) (vals_one _)
  rw [vals_length, HBL.out] at hr
  rw [vals_splice] at hg2
  rw [hr]
  have HG2 := hide hg2
  have HK2 := hide hk2.of_drewN
  clear hg2 hk2 hr
  go_wp2_with fail
  go_ret
  refine ⟨rfl, ?_, HK2.out⟩
  have hg2 := HG2.out
  rw [HPP.out] at hg2 ⊢
  exact H.out.wrote hk HB.out (by rw [HBL.out]; exact ho) HS.out.byte hg2 HK2.out

set_option maxHeartbeats 1000000 in
theorem write_end (r g bl sz : Nat) (hs : List Bool) (zs : List Int) (k : Nat) (ad : Option Addr) (len cap : Nat) (bs : List Int) (w : World) (h : IsSlab w r g bl sz hs zs) (hk : k < bl) (hb : hs.getD k true = true) (hS : Src w ad len cap bs) (ho : len = 0) :
    Calls Tryd.prog 16 #[.pointer (some ⟨r, 0, none⟩), .int .i64 k, .int .i64 sz, .slice ad len cap] w fun e w' => e = .returned (.int .i64 0) ∧ IsSlab w' r g bl sz hs (splice zs (k * sz + sz) bs) ∧ Kept g g w w' := by
  subst ho
  obtain ⟨ws, h1, h2⟩ := h.mem
  obtain ⟨c0, c1, c2, c3, c4⟩ := hdr_cells h1 h2.len
  have hms := h.ms
  have hl := h.len
  have HL := hide (isHeld_at r g bl sz hs zs k w h)
  rw [heldAt_nat hs k (by omega), hb] at HL
  have HP := hide (fun n => piece_at r g k bl sz (w.drewN n) hk h.mz c2 c4)
  have HI := hide (fun n => isWithin_at r sz (sz : Int) 0 (w.drewN n) c2 h.ms (by omega))
  rw [show inAt sz (sz : Int) 0 = true by unfold inAt; simp] at HI
  have hfit : k * sz + sz ≤ zs.length := by have := piece_fits k bl sz hk; rw [h.zlen]; omega
  have H := hide h
  have HB := hide hb
  have HFit := hide hfit
  have HS := hide hS
  have hlc := hS.hcap
  have hbl := hS.hlen
  have HBL := hide hbl
  clear h1 h2 h c1 c2 c3 c4 hb hl hfit hS hbl
  obtain ⟨p, hp⟩ : ∃ p, p = k * sz := ⟨_, rfl⟩
  have HPP := hide hp
  rw [← hp] at HP HFit ⊢
  clear hp
  go_enter Tryd.func16, Tryd.ntmps16
  go_wp2_with fail
  refine (isMade_at r true _ c0).mono ?_
  rintro e w1 ⟨rfl, rfl⟩
  go_wp2_with fail
  refine HL.out.mono ?_
  rintro e w1 ⟨rfl, n1, rfl⟩
  go_wp2_with fail
  refine (HI.out n1).mono ?_
  rintro e w1 ⟨rfl, rfl⟩
  go_wp2_with fail
  refine (HP.out n1).mono ?_
  rintro e w1 ⟨rfl, rfl⟩
  go_wp2_with fail
  rw [run_copy_none (P := Tryd.prog) _ 30 30 3 5 _ ad _ _ _ _ Tryd.underlying30 info5 (by simp)]
  go_wp2_with fail
  go_ret
  obtain rfl : bs = [] := List.eq_nil_of_length_eq_zero HBL.out
  refine ⟨rfl, ?_, (Kept.refl g g w).drewN _⟩
  simp only [splice, List.length_nil, Nat.add_zero, List.append_nil, List.nil_append, List.take_append_drop]
  exact H.out.drewN _

theorem write_ok (r g bl sz : Nat) (hs : List Bool) (zs : List Int) (k o : Nat) (ad : Option Addr) (len cap : Nat) (bs : List Int) (w : World) (h : IsSlab w r g bl sz hs zs) (hk : k < bl) (hb : hs.getD k true = true) (hS : Src w ad len cap bs) (ho : o + len ≤ sz) :
    Calls Tryd.prog 16 #[.pointer (some ⟨r, 0, none⟩), .int .i64 k, .int .i64 o, .slice ad len cap] w fun e w' => e = .returned (.int .i64 0) ∧ IsSlab w' r g bl sz hs (splice zs (k * sz + o) bs) ∧ Kept g g w w' := by
  by_cases hos : o < sz
  · exact write_lt r g bl sz hs zs k o ad len cap bs w h hk hb hS ho hos
  · obtain rfl : o = sz := by omega
    exact write_end r g bl o hs zs k ad len cap bs w h hk hb hS (by omega)

set_option maxHeartbeats 1000000 in
theorem read_none (r g bl sz : Nat) (hs : List Bool) (zs : List Int) (b a n : Int) (w : World) (h : IsSlab w r g bl sz hs zs) (hb : heldAt hs b = false) :
    Calls Tryd.prog 19 #[.pointer (some ⟨r, 0, none⟩), .int .i64 b, .int .i64 a, .int .i64 n] w fun e w' => e = .returned (.tuple #[.slice none 0 0, .int .i64 5]) ∧ ∃ n, w' = w.drewN n := by
  obtain ⟨ws, h1, h2⟩ := h.mem
  obtain ⟨c0, c1, c2, c3, c4⟩ := hdr_cells h1 h2.len
  have HL := hide (isHeld_at r g bl sz hs zs b w h)
  rw [hb] at HL
  clear h1 h2 h c1 c2 c3 c4 hb
  go_enter Tryd.func19, Tryd.ntmps19
  go_wp2_with fail
  refine (isMade_at r true _ c0).mono ?_
  rintro e w1 ⟨rfl, rfl⟩
  go_wp2_with fail
  refine HL.out.mono ?_
  rintro e w1 ⟨rfl, n1, rfl⟩
  go_wp2_with fail
  go_ret2
  exact ⟨rfl, n1, rfl⟩

set_option maxHeartbeats 1000000 in
theorem read_arg (r g bl sz : Nat) (hs : List Bool) (zs : List Int) (b a n : Int) (w : World) (h : IsSlab w r g bl sz hs zs) (hb : heldAt hs b = true) (hlen : n < 9223372036854775808) (hi : inAt sz a n = false) :
    Calls Tryd.prog 19 #[.pointer (some ⟨r, 0, none⟩), .int .i64 b, .int .i64 a, .int .i64 n] w fun e w' => e = .returned (.tuple #[.slice none 0 0, .int .i64 2]) ∧ ∃ n, w' = w.drewN n := by
  obtain ⟨ws, h1, h2⟩ := h.mem
  obtain ⟨c0, c1, c2, c3, c4⟩ := hdr_cells h1 h2.len
  have HL := hide (isHeld_at r g bl sz hs zs b w h)
  rw [hb] at HL
  have HI := hide (fun m => isWithin_at r sz a n (w.drewN m) c2 h.ms hlen)
  rw [hi] at HI
  clear h1 h2 h c1 c2 c3 c4 hb hi
  go_enter Tryd.func19, Tryd.ntmps19
  go_wp2_with fail
  refine (isMade_at r true _ c0).mono ?_
  rintro e w1 ⟨rfl, rfl⟩
  go_wp2_with fail
  refine HL.out.mono ?_
  rintro e w1 ⟨rfl, n1, rfl⟩
  go_wp2_with fail
  refine (HI.out n1).mono ?_
  rintro e w1 ⟨rfl, rfl⟩
  go_wp2_with fail
  go_ret2
  exact ⟨rfl, n1, rfl⟩

set_option maxHeartbeats 1000000 in
theorem read_lt (r g bl sz : Nat) (hs : List Bool) (zs : List Int) (k o n : Nat) (w : World) (h : IsSlab w r g bl sz hs zs) (hk : k < bl) (hb : hs.getD k true = true) (ho : o + n ≤ sz) (hos : o < sz) :
    Calls Tryd.prog 19 #[.pointer (some ⟨r, 0, none⟩), .int .i64 k, .int .i64 o, .int .i64 n] w fun e w' => e = .returned (.tuple #[.slice (some ⟨w.heap.size, 0, none⟩) n n, .int .i64 0]) ∧
      w'.heap[w.heap.size]? = some (.cells (vals ((zs.drop (k * sz + o)).take n)).toArray 5) ∧ Below w.heap.size w w' := by
  obtain ⟨ws, h1, h2⟩ := h.mem
  obtain ⟨c0, c1, c2, c3, c4⟩ := hdr_cells h1 h2.len
  have hms := h.ms
  have hl := h.len
  have hmk := run_make0 n (by omega)
  have HL := hide (isHeld_at r g bl sz hs zs k w h)
  rw [heldAt_nat hs k (by omega), hb] at HL
  have hrl := lt_of_some h1
  have HP : Hid (∀ n1, Calls Tryd.prog 31 #[.pointer (some ⟨r, 0, none⟩), .int .i64 k] ((w.drewN n1).alloc (.cells (vals (zeros n)).toArray 5)) fun e w' => e = .returned (.slice (some ⟨g, k * sz, none⟩) sz sz) ∧ ((w.drewN n1).alloc (.cells (vals (zeros n)).toArray 5)) = w') := fun n1 => by
    refine piece_at r g k bl sz _ hk h.mz ?_ ?_
    · rw [World.cell?_of_block (w := w) (Below.heap_alloc (w.drewN n1) _ _ hrl)]; exact c2
    · rw [World.cell?_of_block (w := w) (Below.heap_alloc (w.drewN n1) _ _ hrl)]; exact c4
  have HI := hide (fun m => isWithin_at r sz (o : Int) n (w.drewN m) c2 h.ms (by omega))
  rw [show inAt sz (o : Int) n = true by unfold inAt; simp; omega] at HI
  have hfit : k * sz + o + n ≤ zs.length := by have := piece_fits k bl sz hk; rw [h.zlen]; omega
  have HA := hide h.arena
  have HFit := hide hfit
  clear h1 h2 h c1 c2 c3 c4 hb hl hfit
  obtain ⟨p, hp⟩ : ∃ p, p = k * sz := ⟨_, rfl⟩
  rw [← hp] at HP HFit ⊢
  clear hp
  go_enter Tryd.func19, Tryd.ntmps19
  go_wp2_with fail
  refine (isMade_at r true _ c0).mono ?_
  rintro e w1 ⟨rfl, rfl⟩
  go_wp2_with fail
  refine HL.out.mono ?_
  rintro e w1 ⟨rfl, n1, rfl⟩
  go_wp2_with fail
  refine (HI.out n1).mono ?_
  rintro e w1 ⟨rfl, rfl⟩
  go_wp2_with fail
  refine (HP.out n1).mono ?_
  rintro e w1 ⟨rfl, rfl⟩
  go_wp2_with fail
  obtain ⟨w2, hr, hg2, hk2⟩ := run_copy_seg (P := Tryd.prog) ((w.drewN n1).alloc (.cells (vals (zeros n)).toArray 5)) 30 30 3 5 Tryd.underlying30 info5 (some ⟨w.heap.size, 0, none⟩) (some ⟨g, p + o, none⟩) n n (sz - o) (sz - o) w.heap.size 0 (vals (zeros n)) 5 (alloc_new _ _) (vals ((zs.drop (p + o)).take n)) (by have := HFit.out; rw [vals_length, List.length_take, List.length_drop]; show _ = min _ _; omega)
    (fun hpos => ⟨rfl, _, rfl, fun j v hv => by
      obtain ⟨hj, rfl⟩ := vals_at _ _ _ hv
      have := HFit.out
      rw [List.length_take, List.length_drop] at hj
      rw [add_none, show ((zs.drop (p + o)).take n).getD j 0 = zs.getD (p + o + j) 0 by simp [List.getD, List.getElem?_take, show j < n by omega]]
      exact row_cell (alloc_old _ HA.out) _ (by omega)⟩) (by have := HFit.out; rw [vals_length, vals_length, List.length_take, List.length_drop, zeros_length]; omega) (vals_one _)
  rw [vals_length, List.length_take, List.length_drop, show min n (zs.length - (p + o)) = n by have := HFit.out; omega] at hr
  rw [vals_splice, splice_all _ _ (by have := HFit.out; rw [List.length_take, List.length_drop, zeros_length]; omega)] at hg2
  rw [hr]
  have HG2 := hide hg2
  have HK2 := hide (((below_drewN (Below.refl w.heap.size w) n1).alloc (Nat.le_refl _) (.cells (vals (zeros n)).toArray 5)).trans (hk2.below (B := w.heap.size) (Nat.le_refl _) (Nat.le_refl _) (by simp)))
  clear hg2 hk2 hr hmk
  go_wp2_with fail
  go_ret2
  exact ⟨rfl, HG2.out, HK2.out⟩

set_option maxHeartbeats 1000000 in
theorem read_end (r g bl sz : Nat) (hs : List Bool) (zs : List Int) (k : Nat) (w : World) (h : IsSlab w r g bl sz hs zs) (hk : k < bl) (hb : hs.getD k true = true) :
    Calls Tryd.prog 19 #[.pointer (some ⟨r, 0, none⟩), .int .i64 k, .int .i64 sz, .int .i64 0] w fun e w' => e = .returned (.tuple #[.slice (some ⟨w.heap.size, 0, none⟩) 0 0, .int .i64 0]) ∧
      w'.heap[w.heap.size]? = some (.cells (vals []).toArray 5) ∧ Below w.heap.size w w' := by
  obtain ⟨ws, h1, h2⟩ := h.mem
  obtain ⟨c0, c1, c2, c3, c4⟩ := hdr_cells h1 h2.len
  have hms := h.ms
  have hl := h.len
  have hmk : ∀ w : World, (Instr.makeSlice 30 (.int .i64 0) (.int .i64 0)).run Tryd.prog w = .ok (.slice (some ⟨w.heap.size, 0, none⟩) 0 0) (w.alloc (.cells (vals (zeros 0)).toArray 5)) := run_make0 0 (by omega)
  have HL := hide (isHeld_at r g bl sz hs zs k w h)
  rw [heldAt_nat hs k (by omega), hb] at HL
  have hrl := lt_of_some h1
  have HP : Hid (∀ n1, Calls Tryd.prog 31 #[.pointer (some ⟨r, 0, none⟩), .int .i64 k] ((w.drewN n1).alloc (.cells (vals (zeros 0)).toArray 5)) fun e w' => e = .returned (.slice (some ⟨g, k * sz, none⟩) sz sz) ∧ ((w.drewN n1).alloc (.cells (vals (zeros 0)).toArray 5)) = w') := fun n1 => by
    refine piece_at r g k bl sz _ hk h.mz ?_ ?_
    · rw [World.cell?_of_block (w := w) (Below.heap_alloc (w.drewN n1) _ _ hrl)]; exact c2
    · rw [World.cell?_of_block (w := w) (Below.heap_alloc (w.drewN n1) _ _ hrl)]; exact c4
  have HI := hide (fun m => isWithin_at r sz (sz : Int) 0 (w.drewN m) c2 h.ms (by omega))
  rw [show inAt sz (sz : Int) 0 = true by unfold inAt; simp] at HI
  have HA := hide h.arena
  clear h1 h2 h c1 c2 c3 c4 hb hl
  obtain ⟨p, hp⟩ : ∃ p, p = k * sz := ⟨_, rfl⟩
  rw [← hp] at HP
  clear hp
  go_enter Tryd.func19, Tryd.ntmps19
  go_wp2_with fail
  refine (isMade_at r true _ c0).mono ?_
  rintro e w1 ⟨rfl, rfl⟩
  go_wp2_with fail
  refine HL.out.mono ?_
  rintro e w1 ⟨rfl, n1, rfl⟩
  go_wp2_with fail
  refine (HI.out n1).mono ?_
  rintro e w1 ⟨rfl, rfl⟩
  go_wp2_with fail
  refine (HP.out n1).mono ?_
  rintro e w1 ⟨rfl, rfl⟩
  go_wp2_with fail
  rw [run_copy_none (P := Tryd.prog) _ 30 30 3 5 _ _ _ _ _ _ Tryd.underlying30 info5 (by simp)]
  go_wp2_with fail
  go_ret2
  refine ⟨rfl, ?_, (below_drewN (Below.refl w.heap.size w) n1).alloc (Nat.le_refl _) _⟩
  exact alloc_new (w.drewN n1) _

theorem read_ok (r g bl sz : Nat) (hs : List Bool) (zs : List Int) (k o n : Nat) (w : World) (h : IsSlab w r g bl sz hs zs) (hk : k < bl) (hb : hs.getD k true = true) (ho : o + n ≤ sz) :
    Calls Tryd.prog 19 #[.pointer (some ⟨r, 0, none⟩), .int .i64 k, .int .i64 o, .int .i64 n] w fun e w' => e = .returned (.tuple #[.slice (some ⟨w.heap.size, 0, none⟩) n n, .int .i64 0]) ∧
      w'.heap[w.heap.size]? = some (.cells (vals ((zs.drop (k * sz + o)).take n)).toArray 5) ∧ Below w.heap.size w w' := by
  by_cases hos : o < sz
  · exact read_lt r g bl sz hs zs k o n w h hk hb ho hos
  · obtain rfl : o = sz := by omega
    obtain rfl : n = 0 := by omega
    exact read_end r g bl o hs zs k w h hk hb

end Go.Proofs.YtnikjcinleghbaaDoor
