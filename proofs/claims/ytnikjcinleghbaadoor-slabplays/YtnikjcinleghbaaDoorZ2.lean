/-
  The reference slab's Write and Read where they are not refused; conditions as each theorem has them.
-/
import Derived.Test.YtnikjcinleghbaaDoorZ
set_option linter.unusedSimpArgs false
set_option linter.unusedVariables false
namespace Go.Proofs.YtnikjcinleghbaaDoor
open Go.RowKit

theorem getD_set0 (L : List Int) (i : Nat) (x : Int) (j : Nat) (hi : i < L.length) : (L.set i x).getD j 0 = if i = j then x else L.getD j 0 := by
  simp only [List.getD, List.getElem?_set]
  by_cases h : i = j
  · subst h; simp [hi]
  · simp [h]

theorem splice_step (L bs : List Int) (o i : Nat) (h : o + bs.length ≤ L.length) (hi : i < bs.length) : (splice L o (bs.take i)).set (o + i) (bs.getD i 0) = splice L o (bs.take (i + 1)) := by
  have l1 : (bs.take i).length = i := by rw [List.length_take]; omega
  have l2 : (bs.take (i + 1)).length = i + 1 := by rw [List.length_take]; omega
  have e1 := length_splice L o (bs.take i) (by omega)
  have e2 := length_splice L o (bs.take (i + 1)) (by omega)
  apply list_ext0
  · rw [List.length_set, e1, e2]
  · intro j hj
    rw [getD_set0 _ _ _ _ (by omega), getD_splice _ _ _ _ (by omega), getD_splice _ _ _ _ (by omega), l1, l2, getD_take', getD_take']
    by_cases h1 : o + i = j
    · subst h1
      rw [if_pos rfl, if_neg (by omega), if_pos (by omega), show o + i - o = i by omega, if_pos (by omega)]
    · simp only [if_neg h1]
      by_cases h2 : j < o
      · simp [h2]
      · simp only [if_neg h2]
        by_cases h3 : j < o + i
        · rw [if_pos h3, if_pos (by omega), if_pos (by omega), if_pos (by omega)]
        · rw [if_neg h3, if_neg (by omega)]

theorem row_own {zs bs : List Int} {bl sz k o : Nat} (hz : zs.length = bl * sz) (hk : k < bl) (ho : o + bs.length ≤ sz) : row (splice zs (k * sz + o) bs) sz k = splice (row zs sz k) o bs := by
  have hp := piece_fits k bl sz hk
  have hf : k * sz + o + bs.length ≤ zs.length := by omega
  have hl := length_splice zs (k * sz + o) bs hf
  have hr := row_length hz hk
  apply list_ext0
  · rw [row_length (by rw [hl]; exact hz) hk, length_splice _ _ _ (by omega), hr]
  · intro i hi
    rw [row_length (by rw [hl]; exact hz) hk] at hi
    rw [row_getD hi, own_block hf, getD_splice _ _ _ _ (by omega)]
    by_cases h1 : i < o
    · rw [if_pos h1, if_pos h1, row_getD hi]
    · rw [if_neg h1, if_neg h1]
      by_cases h2 : i < o + bs.length
      · rw [if_pos h2, if_pos h2]
      · rw [if_neg h2, if_neg h2, row_getD hi]

theorem vals_set (L : List Int) (i : Nat) (x : Int) : (vals L).toArray.setIfInBounds i (.int .u8 x) = (vals (L.set i x)).toArray := by
  apply Array.ext'
  simp [vals, List.map_set]

set_option maxHeartbeats 1000000 in
theorem refwrite_ok (y bl sz : Nat) (hs : List Bool) (zs : List Int) (M : Nat → Prop) (k o : Nat) (ad : Option Addr) (len cap : Nat) (bs : List Int) (w : World) (h : RefM w y bl sz hs zs M) (hk : k < bl) (hb : hs.getD k true = true) (hS : Src w ad len cap bs) (ho : o + len ≤ sz) (hap : ∀ b o, ad = some ⟨b, o, none⟩ → 0 < len → ¬ M b) :
    Calls Tryd.prog 17 #[.pointer (some ⟨y, 0, none⟩), .int .i64 k, .int .i64 o, .slice ad len cap] w fun e w' => e = .returned (.int .i64 0) ∧ RefM w' y bl sz hs (splice zs (k * sz + o) bs) M ∧ KeptM M w w' := by
  have HTh := hide (there_at y bl sz hs zs M k w h)
  obtain ⟨vb, vh, bs', hd, yb, yh, h⟩ := h
  rw [heldAt_nat hs k (by rw [h.len]; exact hk), hb] at HTh
  obtain ⟨c0, c1, c2⟩ := yhd_cells h.head
  obtain ⟨capb, curb, x, e2, hcapb, ob, hx, hxf⟩ := h.blocksForm k hk
  obtain ⟨s1, s2, s3, s4, s5, s6⟩ := h.spot k hk hb
  have hx' := ob.cell k _ s1
  have hms := h.ms
  have hmb := h.mb
  subst e2
  obtain ⟨D, hD⟩ : ∃ D, D = hd k := ⟨_, rfl⟩
  rw [← hD] at s2 s3 s4 s5 s6 hx'
  have hDl := h.mlt D s6
  have hyl := h.mlt y h.my
  have hybl := h.mlt yb (h.mb' (by omega)).1
  have hlc := hS.hcap
  have hbl := hS.hlen
  have hrl := row_length h.zlen hk
  have H := hide h
  have HB := hide hb
  have HS := hide hS
  have HAP := hide hap
  have HD := hide hD
  have HS2 := hide s2
  have HBL := hide hbl
  have HRL := hide hrl
  have hln : len ≤ 65536 := by omega
  clear h hb hS hap hD s1 s2 ob hx hxf c2 hbl hrl
  have t1 : decide ((o : Int) < 0) = false := by simp
  have t2 : decide ((sz : Int) < o) = false := by simp; omega
  have t3 : decide ((sz : Int) - o < len) = false := by simp; omega
  have t4 : decide (sz < o) = false := by simp; omega
  go_enter Tryd.func17, Tryd.ntmps17
  go_wp2_with fail
  refine HTh.out.mono ?_
  rintro e w1 ⟨rfl, rfl⟩
  go_wp2_with fail
  go_loopw [9] (fun i wr => ∃ j : Nat, j ≤ len ∧ i = .int .i64 j ∧ Hid (wr.heap[D]? = some (.cells (vals (splice (row zs sz k) o (bs.take j))).toArray 5)) ∧ Hid (Kept D D w wr)) (fun i _ => len - (intOf i).toNat)
  case atStart =>
    refine ⟨0, Nat.zero_le _, rfl, ?_, Kept.refl _ _ _⟩
    show _ = _
    simpa [splice] using HS2.out
  case round =>
    obtain ⟨j, hj, rfl, HM, HK⟩ := hrel
    by_cases h1 : j < len
    · obtain ⟨bb, bo, e5, hsrc⟩ := HS.out.lies (by omega)
      have hnm := HAP.out bb bo e5 (by omega)
      subst e5
      have hbD : bb ≠ D := fun e => hnm (e ▸ s6)
      have hbb := lt_of_cell (hsrc j h1)
      have q1 : wr.cell? ⟨y, 1, none⟩ = some (.slice (some ⟨yb, 0, none⟩) bl capb) := (World.cell?_of_block (w := w) (HK.out.block y hyl (Ne.symm s3) (Ne.symm s3))).trans c1
      have q2 : wr.cell? ⟨yb, k, none⟩ = some (.slice (some ⟨D, 0, none⟩) sz sz) := (World.cell?_of_block (w := w) (HK.out.block yb hybl (Ne.symm s4) (Ne.symm s4))).trans hx'
      have q3 : wr.cell? ⟨bb, bo + j, none⟩ = some (.int .u8 (bs.getD j 0)) := (World.cell?_of_block (w := w) (HK.out.block bb hbb hbD hbD)).trans (hsrc j h1)
      have hjl : (bs.take j).length = j := by rw [List.length_take, HBL.out]; omega
      have hsl : (splice (row zs sz k) o (bs.take j)).length = sz := by rw [length_splice _ _ _ (by rw [HRL.out, hjl]; omega), HRL.out]
      have q4 := row_cell HM.out (o + j) (by rw [hsl]; omega)
      have q4f : wr.frozen? ⟨D, o + j, none⟩ = false := by simp [World.frozen?, HM.out]
      have HNext : Hid ((wr.setCell ⟨D, o + j, none⟩ (.int .u8 (bs.getD j 0))).heap[D]? = some (.cells (vals (splice (row zs sz k) o (bs.take (j + 1)))).toArray 5)) := by
        show _ = _
        rw [heap_setCell_same HM.out, vals_set, splice_step _ _ _ _ (by rw [HRL.out, HBL.out]; exact ho) (by rw [HBL.out]; exact h1)]
      generalize bs.getD j 0 = xv at q3 HNext
      generalize (splice (row zs sz k) o (bs.take j)).getD (o + j) 0 = xo at q4
      clear hsrc hjl hsl
      go_wp2_with fail
      go_region
      all_goals
        go_wp2_with fail
        go_roundw
        case rel => exact ⟨j + 1, by omega, by go_num, HNext.out, (HK.out.set _ _).drewN 1⟩
        case measure => simp [intOf]; omega
    · obtain rfl : j = len := by omega
      go_wp2_with fail
      go_ret
      have h := H.out
      have hfin : bs.take j = bs := by rw [List.take_of_length_le]; rw [HBL.out]; exact Nat.le_refl _
      have hM := HM.out
      rw [hfin] at hM
      have hpf := piece_fits k bl sz hk
      have hzl := h.zlen
      have hbl := HBL.out
      have hf : k * sz + o + bs.length ≤ zs.length := by omega
      have hDk := HD.out
      refine ⟨rfl, ⟨.slice (some ⟨yb, 0, none⟩) bl capb, vh, bs', hd, yb, yh, { h with head := ?_, zlen := by rw [length_splice _ _ _ hf]; exact hzl, rowB := ?_, rowH := ?_, spot := fun i hi hh => ?_, mlt := fun i hi => Nat.lt_of_lt_of_le (h.mlt i hi) HK.out.size, byte := fun x hx => mem_splice' hx h.byte HS.out.byte }⟩, KeptM.of_kept HK.out s6 s6⟩
      · rw [HK.out.block y hyl (Ne.symm s3) (Ne.symm s3)]; exact h.head
      · rcases h.rowB with h0 | ⟨hp, a1, a2, o'⟩
        · exact Or.inl h0
        · exact Or.inr ⟨hp, a1, a2, o'.keep (HK.out.block yb hybl (Ne.symm s4) (Ne.symm s4))⟩
      · rcases h.rowH with h0 | ⟨hp, a1, a2, o'⟩
        · exact Or.inl h0
        · exact Or.inr ⟨hp, a1, a2, o'.keep (HK.out.block yh (h.mlt yh (h.mb' hp).2) (Ne.symm s5) (Ne.symm s5))⟩
      · obtain ⟨t1, t2, t3⟩ := h.spot i hi hh
        refine ⟨t1, ?_, t3⟩
        by_cases hik : i = k
        · subst hik
          rw [row_own hzl hi (by omega), ← hDk]
          exact hM
        · have hne : hd i ≠ D := fun e => hik (h.inj i k hi hk hh HB.out (by rw [e, hDk]))
          rw [HK.out.block (hd i) (h.mlt _ t3.2.2.2) hne hne, row_ext hzl (by rw [length_splice _ _ _ hf]; exact hzl) hi (fun q hq => other_block hik (by omega) hf hq)]
          exact t2

set_option maxHeartbeats 1000000 in
theorem refread_none (y bl sz : Nat) (hs : List Bool) (zs : List Int) (M : Nat → Prop) (b a n : Int) (w : World) (h : RefM w y bl sz hs zs M) (hh : heldAt hs b = false) :
    Calls Tryd.prog 20 #[.pointer (some ⟨y, 0, none⟩), .int .i64 b, .int .i64 a, .int .i64 n] w fun e w' => e = .returned (.tuple #[.slice none 0 0, .int .i64 5]) ∧ w = w' := by
  have HTh := hide (there_at y bl sz hs zs M b w h)
  rw [hh] at HTh
  clear h hh
  go_enter Tryd.func20, Tryd.ntmps20
  go_wp2_with fail
  refine HTh.out.mono ?_
  rintro e w1 ⟨rfl, rfl⟩
  go_wp2_with fail
  go_ret2
  exact ⟨rfl, rfl⟩

set_option maxHeartbeats 1000000 in
theorem refread_arg (y bl sz : Nat) (hs : List Bool) (zs : List Int) (M : Nat → Prop) (b a n : Int) (w : World) (h : RefM w y bl sz hs zs M) (hh : heldAt hs b = true) (hn : n < 9223372036854775808) (hi : inAt sz a n = false) :
    Calls Tryd.prog 20 #[.pointer (some ⟨y, 0, none⟩), .int .i64 b, .int .i64 a, .int .i64 n] w fun e w' => e = .returned (.tuple #[.slice none 0 0, .int .i64 2]) ∧ w = w' := by
  have HTh := hide (there_at y bl sz hs zs M b w h)
  rw [hh] at HTh
  obtain ⟨vb, vh, bs, hd, yb, yh, h⟩ := h
  obtain ⟨c0, c1, c2⟩ := yhd_cells h.head
  have hms := h.ms
  unfold inAt at hi
  simp at hi
  have HI := hide hi
  clear h hh hi c1 c2
  by_cases h1 : 0 ≤ a
  · by_cases h0 : 0 ≤ n
    · by_cases h2 : a ≤ sz
      · have h3 : (sz : Int) < a + n := HI.out h1 h0
        go_enter Tryd.func20, Tryd.ntmps20
        go_wp2_with fail
        refine HTh.out.mono ?_
        rintro e w1 ⟨rfl, rfl⟩
        go_wp2_with fail
        go_ret2
        exact ⟨rfl, rfl⟩
      · go_enter Tryd.func20, Tryd.ntmps20
        go_wp2_with fail
        refine HTh.out.mono ?_
        rintro e w1 ⟨rfl, rfl⟩
        go_wp2_with fail
        go_ret2
        exact ⟨rfl, rfl⟩
    · go_enter Tryd.func20, Tryd.ntmps20
      go_wp2_with fail
      refine HTh.out.mono ?_
      rintro e w1 ⟨rfl, rfl⟩
      go_wp2_with fail
      go_ret2
      exact ⟨rfl, rfl⟩
  · go_enter Tryd.func20, Tryd.ntmps20
    go_wp2_with fail
    refine HTh.out.mono ?_
    rintro e w1 ⟨rfl, rfl⟩
    go_wp2_with fail
    go_ret2
    exact ⟨rfl, rfl⟩

set_option maxHeartbeats 1000000 in
theorem refread_ok (y bl sz : Nat) (hs : List Bool) (zs : List Int) (M : Nat → Prop) (k o n : Nat) (w : World) (h : RefM w y bl sz hs zs M) (hk : k < bl) (hb : hs.getD k true = true) (ho : o + n ≤ sz) :
    Calls Tryd.prog 20 #[.pointer (some ⟨y, 0, none⟩), .int .i64 k, .int .i64 o, .int .i64 n] w fun e w' => ∃ h' v', e = .returned (.tuple #[v', .int .i64 0]) ∧ OwnAt w' h' v' ((zs.drop (k * sz + o)).take n) ∧ w.heap.size ≤ h' ∧ Below w.heap.size w w' := by
  have HTh := hide (there_at y bl sz hs zs M k w h)
  obtain ⟨vb, vh, bs', hd, yb, yh, h⟩ := h
  rw [heldAt_nat hs k (by rw [h.len]; exact hk), hb] at HTh
  obtain ⟨c0, c1, c2⟩ := yhd_cells h.head
  obtain ⟨capb, curb, x, e2, hcapb, ob, hx, hxf⟩ := h.blocksForm k hk
  obtain ⟨s1, s2, s3, s4, s5, s6⟩ := h.spot k hk hb
  have hx' := ob.cell k _ s1
  have hms := h.ms
  have hmb := h.mb
  subst e2
  obtain ⟨D, hD⟩ : ∃ D, D = hd k := ⟨_, rfl⟩
  rw [← hD] at s2 s6 hx'
  have hDl := h.mlt D s6
  have hyl := h.mlt y h.my
  have hybl := h.mlt yb (h.mb' (by omega)).1
  have hpf := piece_fits k bl sz hk
  have hzl := h.zlen
  have c1a : (w.alloc (.cells #[] 5)).cell? ⟨y, 1, none⟩ = some (.slice (some ⟨yb, 0, none⟩) bl capb) := (World.cell?_of_block (w := w) (Below.heap_alloc _ _ _ hyl)).trans c1
  have hxa : (w.alloc (.cells #[] 5)).cell? ⟨yb, k, none⟩ = some (.slice (some ⟨D, 0, none⟩) sz sz) := (World.cell?_of_block (w := w) (Below.heap_alloc _ _ _ hybl)).trans hx'
  have hl : ((zs.drop (k * sz + o)).take n).length = n := by rw [List.length_take, List.length_drop]; omega
  have hbyte : ∀ x ∈ (zs.drop (k * sz + o)).take n, 0 ≤ x ∧ x < 256 := fun x hx => h.byte x (List.mem_of_mem_drop (List.mem_of_mem_take hx))
  have hS : ∀ a c, (0 < n → a = some ⟨D, o, none⟩) → n ≤ c → c ≤ 65536 → a ≠ none → Src (w.alloc (.cells #[] 5)) a n c ((zs.drop (k * sz + o)).take n) := fun a c ha hc1 hc2 hne =>
    ⟨hl, hc1, by unfold maxLen; omega, fun e => absurd e hne, fun h0 => ⟨D, o, ha h0, fun i hi => by
      have hr := row_cell (alloc_old (.cells #[] 5) s2) (o + i) (by rw [row_length hzl hk]; omega)
      rw [hr, row_getD (by omega)]
      congr 2
      simp [List.getD, List.getElem?_take, hi, Nat.add_assoc]⟩, hbyte⟩
  obtain ⟨a, c, ha, hac⟩ : ∃ a c, Src (w.alloc (.cells #[] 5)) (some a) n c ((zs.drop (k * sz + o)).take n) ∧ ((o < sz ∧ a = ⟨D, o, none⟩ ∧ c = sz - o) ∨ (o = sz ∧ a = ⟨D, 0, none⟩ ∧ c = 0)) := by
    by_cases hos : o < sz
    · exact ⟨_, _, hS (some ⟨D, o, none⟩) (sz - o) (fun _ => rfl) (by omega) (by omega) (by simp), Or.inl ⟨hos, rfl, rfl⟩⟩
    · exact ⟨_, _, hS (some ⟨D, 0, none⟩) 0 (fun h => by omega) (by omega) (by omega) (by simp), Or.inr ⟨by omega, rfl, rfl⟩⟩
  obtain ⟨v', w', h', hr, hown, hw, hkk⟩ := run_app_at 30 (own_at_new w) ha (by simp; omega)
  have HR := hide hr
  have HO := hide hown
  have HBel : Hid (Below w.heap.size w w') := ((Below.refl w.heap.size w).alloc (Nat.le_refl _) _).trans (hkk.below (Nat.le_refl _) (Nat.le_refl _) (by simp))
  have hh' : w.heap.size ≤ h' := by simp at hw; omega
  clear hr hown hw hkk ha hS hbyte hl h hb ob hx hxf s1 s2 c2 hpf hzl hD c1 hx'
  rcases hac with ⟨hos, rfl, rfl⟩ | ⟨hos, rfl, rfl⟩
  · have HR2 : Hid ((Builtin.append_ #[30, 30] 30 #[.slice (some ⟨w.heap.size, 0, none⟩) 0 0, .slice (some ⟨D, o, none⟩) (o + n - o) (sz - o)]).run Tryd.prog (w.alloc (.cells #[] 5)) = .ok v' w') := by
      show _ = _
      rw [show o + n - o = n by omega]
      exact HR.out
    clear HR
    go_enter Tryd.func20, Tryd.ntmps20
    go_wp2_with fail
    refine HTh.out.mono ?_
    rintro e w1 ⟨rfl, rfl⟩
    go_wp2_with (at_builtin; refine wpList_app_run _ rfl _ _ 30 30 rfl _ _ rfl rfl HR2.out ?_)
    go_ret2
    exact ⟨h', v', rfl, HO.out, hh', HBel.out⟩
  · obtain rfl : n = 0 := by omega
    subst hos
    go_enter Tryd.func20, Tryd.ntmps20
    go_wp2_with fail
    refine HTh.out.mono ?_
    rintro e w1 ⟨rfl, rfl⟩
    go_wp2_with (at_builtin; refine wpList_app_run _ rfl _ _ 30 30 rfl _ _ rfl rfl HR.out ?_)
    go_ret2
    exact ⟨h', v', rfl, HO.out, hh', HBel.out⟩

end Go.Proofs.YtnikjcinleghbaaDoor
