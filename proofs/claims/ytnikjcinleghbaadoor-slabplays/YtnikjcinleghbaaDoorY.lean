/-
  The reference slab's there, Put, Used and Get; conditions as each theorem has them.
-/
import Derived.Test.YtnikjcinleghbaaDoorX
set_option linter.unusedSimpArgs false
set_option linter.unusedVariables false
namespace Go.Proofs.YtnikjcinleghbaaDoor
open Go.RowKit

theorem row_length {zs : List Int} {bl sz k : Nat} (hz : zs.length = bl * sz) (hk : k < bl) : (row zs sz k).length = sz := by
  have := piece_fits k bl sz hk
  unfold row
  rw [List.length_take, List.length_drop]
  omega
theorem row_getD {zs : List Int} {sz k i : Nat} (hi : i < sz) : (row zs sz k).getD i 0 = zs.getD (k * sz + i) 0 := by
  unfold row
  simp [List.getD, List.getElem?_take, hi]
theorem list_ext0 {a b : List Int} (h : a.length = b.length) (he : ∀ i, i < a.length → a.getD i 0 = b.getD i 0) : a = b := by
  apply List.ext_getElem h
  intro i h1 h2
  have := he i h1
  simpa [List.getD, h1, h2] using this
theorem row_ext {zs zs' : List Int} {bl sz k : Nat} (hz : zs.length = bl * sz) (hz' : zs'.length = bl * sz) (hk : k < bl) (he : ∀ i, i < sz → zs'.getD (k * sz + i) 0 = zs.getD (k * sz + i) 0) : row zs' sz k = row zs sz k := by
  apply list_ext0
  · rw [row_length hz' hk, row_length hz hk]
  · intro i hi
    rw [row_length hz' hk] at hi
    rw [row_getD hi, row_getD hi]
    exact he i hi

theorem IsRef.heldForm {w : World} {y bl sz : Nat} {hs : List Bool} {zs : List Int} {M : Nat → Prop} {vb vh : Value} {bs : List Value} {hd : Nat → Nat} {yb yh : Nat} (h : IsRef w y bl sz hs zs M vb vh bs hd yb yh) :
    ∃ ah cap, vh = .slice ah bl cap ∧ bl ≤ cap ∧ ∀ k, k < bl → ah = some ⟨yh, 0, none⟩ ∧ w.cell? ⟨yh, k, none⟩ = some (.bool (hs.getD k true)) ∧ w.frozen? ⟨yh, k, none⟩ = false := by
  rcases h.rowH with ⟨e0, e1⟩ | ⟨hp, cap, cur, o⟩
  · exact ⟨none, 0, by rw [e1, e0], by omega, fun k hk => by omega⟩
  · refine ⟨some ⟨yh, 0, none⟩, cap, by have := o.val; simpa [h.len] using this, by have := o.fit; simpa [h.len] using this, fun k hk => ⟨rfl, o.cell k _ ?_, o.frozen k⟩⟩
    have hl := h.len
    simp [List.getD, show k < hs.length by omega]

theorem IsRef.blocksForm {w : World} {y bl sz : Nat} {hs : List Bool} {zs : List Int} {M : Nat → Prop} {vb vh : Value} {bs : List Value} {hd : Nat → Nat} {yb yh : Nat} (h : IsRef w y bl sz hs zs M vb vh bs hd yb yh) (k : Nat) (hk : k < bl) :
    ∃ cap cur x, vb = .slice (some ⟨yb, 0, none⟩) bl cap ∧ bl ≤ cap ∧ OwnR 30 w yb vb cap cur bs ∧ w.cell? ⟨yb, k, none⟩ = some x ∧ w.frozen? ⟨yb, k, none⟩ = false := by
  rcases h.rowB with ⟨e0, e1⟩ | ⟨hp, cap, cur, o⟩
  · omega
  · have hb := h.blen
    obtain ⟨x, hx⟩ : ∃ x, bs[k]? = some x := ⟨_, List.getElem?_eq_getElem (by omega)⟩
    exact ⟨cap, cur, x, by have := o.val; rwa [hb] at this, by have := o.fit; rwa [hb] at this, o, o.cell k x hx, o.frozen k⟩

set_option maxHeartbeats 1000000 in
theorem there_at (y bl sz : Nat) (hs : List Bool) (zs : List Int) (M : Nat → Prop) (b : Int) (w : World) (h : RefM w y bl sz hs zs M) :
    Calls Tryd.prog 32 #[.pointer (some ⟨y, 0, none⟩), .int .i64 b] w fun e w' => e = .returned (.bool (heldAt hs b)) ∧ w = w' := by
  obtain ⟨vb, vh, bs, hd, yb, yh, h⟩ := h
  obtain ⟨c0, c1, c2⟩ := yhd_cells h.head
  obtain ⟨ah, cap, e1, hcap, hc⟩ := h.heldForm
  subst e1
  have hl := h.len
  have hmb := h.mb
  have HC := hide hc
  have HLen := hide hl
  clear hc h hl c0 c1
  by_cases hb0 : 0 ≤ b
  · by_cases hb1 : b < bl
    · obtain ⟨k, rfl⟩ : ∃ k : Nat, b = k := ⟨b.toNat, by omega⟩
      have hk : k < bl := by omega
      obtain ⟨e2, d, _⟩ := HC.out k hk
      subst e2
      have HE : Hid (heldAt hs k = hs.getD k true) := heldAt_nat hs k (by rw [HLen.out]; exact hk)
      go_enter Tryd.func32, Tryd.ntmps32
      go_wp2_with fail
      go_ret
      refine ⟨?_, rfl⟩
      rw [HE.out]
      simp [hk]
    · have HE : Hid (heldAt hs b = false) := by show heldAt hs b = false; unfold heldAt; simp; have := HLen.out; omega
      go_enter Tryd.func32, Tryd.ntmps32
      go_wp2_with fail
      go_ret
      refine ⟨?_, rfl⟩
      rw [HE.out]
      simp [hb0, hb1]
  · have HE : Hid (heldAt hs b = false) := by show heldAt hs b = false; unfold heldAt; simp; omega
    go_enter Tryd.func32, Tryd.ntmps32
    go_wp2_with fail
    go_ret
    refine ⟨?_, rfl⟩
    rw [HE.out]
    simp [hb0]

theorem RefM.rows {w : World} {y bl sz : Nat} {hs : List Bool} {zs zs' : List Int} {M : Nat → Prop} (h : RefM w y bl sz hs zs M) (hz : zs'.length = bl * sz) (hr : ∀ k, k < bl → hs.getD k true = true → row zs' sz k = row zs sz k) (hb : ∀ x ∈ zs', 0 ≤ x ∧ x < 256) : RefM w y bl sz hs zs' M := by
  obtain ⟨vb, vh, bs, hd, yb, yh, h⟩ := h
  exact ⟨vb, vh, bs, hd, yb, yh, { h with zlen := hz, spot := fun k hk hh => by rw [hr k hk hh]; exact h.spot k hk hh, byte := hb }⟩

set_option maxHeartbeats 1000000 in
theorem refput_any (y bl sz : Nat) (hs : List Bool) (zs : List Int) (M : Nat → Prop) (b : Int) (w : World) (h : RefM w y bl sz hs zs M) :
    Calls Tryd.prog 14 #[.pointer (some ⟨y, 0, none⟩), .int .i64 b] w fun e w' => e = .returned (.int .i64 (pcode hs b)) ∧ RefM w' y bl sz (phs hs b) zs M ∧ KeptM M w w' := by
  unfold pcode phs
  have HTh := hide (there_at y bl sz hs zs M b w h)
  cases hh : heldAt hs b with
  | false =>
    have H := hide h
    rw [hh] at HTh
    clear h hh
    go_enter Tryd.func14, Tryd.ntmps14
    go_wp2_with fail
    refine HTh.out.mono ?_
    rintro e w1 ⟨rfl, rfl⟩
    go_wp2_with fail
    go_ret
    exact ⟨rfl, H.out, KeptM.refl _ _⟩
  | true =>
    rw [hh] at HTh
    obtain ⟨k, rfl, hk, hk2⟩ := heldAt_true hh
    obtain ⟨vb, vh, bs, hd, yb, yh, h⟩ := h
    obtain ⟨c0, c1, c2⟩ := yhd_cells h.head
    obtain ⟨ah, cap, e1, hcap, hc⟩ := h.heldForm
    rw [h.len] at hk
    obtain ⟨e2, d, df⟩ := hc k hk
    subst e1
    subst e2
    have hmb := h.mb
    have H := hide h
    clear hc h hh c0 c1
    go_enter Tryd.func14, Tryd.ntmps14
    go_wp2_with fail
    refine HTh.out.mono ?_
    rintro e w1 ⟨rfl, rfl⟩
    go_wp2_with fail
    go_ret
    have h := H.out
    have hM := h.mb' (by omega)
    have hlk : k < hs.length := by rw [h.len]; exact hk
    have hsetl : ∀ j, (hs.set k false).getD j true = true → hs.getD j true = true ∧ j ≠ k := fun j hj => by
      rw [getDb_set _ _ _ _ hlk] at hj
      split at hj
      · cases hj
      · exact ⟨hj, by omega⟩
    refine ⟨rfl, ⟨vb, .slice (some ⟨yh, 0, none⟩) bl cap, bs, hd, yb, yh, { h with head := ?_, len := by simp [h.len], rowB := ?_, rowH := ?_, spot := fun j hj hh => ?_, inj := fun a c ha hc h1 h2 he => h.inj a c ha hc (hsetl a h1).1 (hsetl c h2).1 he, mlt := fun j hj => by have := h.mlt j hj; simpa [World.setCell] using this }⟩, KeptM.of_kept ((Kept.refl yh yh w).set _ _) hM.2 hM.2⟩
    · rw [Below.heap_setCell _ _ _ _ (by simpa using h.ne2)]; exact h.head
    · rcases h.rowB with h0 | ⟨hp, c1, c2, o⟩
      · exact Or.inl h0
      · exact Or.inr ⟨hp, c1, c2, o.keep (Below.heap_setCell _ _ _ _ (by simpa using h.ne3))⟩
    · rcases h.rowH with h0 | ⟨hp, c1, c2, o⟩
      · omega
      · have := o.set k (.bool false) (by simpa using hlk)
        exact Or.inr ⟨hp, c1, _, by rw [List.map_set]; exact this⟩
    · obtain ⟨s1, s2, s3⟩ := h.spot j hj (hsetl j hh).1
      exact ⟨s1, (Below.heap_setCell _ _ _ _ (by simpa using s3.2.2.1)).trans s2, s3⟩

set_option maxHeartbeats 1000000 in
theorem refused_at (y bl sz : Nat) (hs : List Bool) (zs : List Int) (M : Nat → Prop) (w : World) (h : RefM w y bl sz hs zs M) :
    Calls Tryd.prog 24 #[.pointer (some ⟨y, 0, none⟩)] w fun e w' => e = .returned (.int .i64 (hs.count true)) ∧ w = w' := by
  obtain ⟨vb, vh, bs, hd, yb, yh, h⟩ := h
  obtain ⟨c0, c1, c2⟩ := yhd_cells h.head
  obtain ⟨ah, cap, e1, hcap, hc⟩ := h.heldForm
  subst e1
  have hmb := h.mb
  have HC := hide hc
  have HLen := hide h.len
  have hsb : ∀ n, sumB n (fun k => hs.getD k true) ≤ n := by
    intro n
    induction n with
    | zero => exact Nat.le_refl _
    | succ n ih => rw [sumB]; have := Bool.toNat_le (hs.getD n true); omega
  have HSB := hide hsb
  clear hc h c0 c1 hsb
  go_enter Tryd.func24, Tryd.ntmps24
  go_wp2_with fail
  go_loopw [3, 4] (fun n i wr => ∃ j : Nat, j ≤ bl ∧ i = .int .i64 j ∧ n = .int .i64 (sumB j (fun k => hs.getD k true) : Nat) ∧ Hid (wr = w)) (fun _ i _ => bl - (intOf i).toNat)
  case atStart => exact ⟨0, Nat.zero_le _, rfl, rfl, rfl⟩
  case round =>
    obtain ⟨j, hj, rfl, rfl, HW⟩ := hrel
    have hw := HW.out
    subst hw
    have hle := HSB.out j
    obtain ⟨c, hc⟩ : ∃ c, c = sumB j (fun k => hs.getD k true) := ⟨_, rfl⟩
    rw [← hc] at hle ⊢
    have HCn := hide hc
    clear hc
    by_cases h1 : j < bl
    · obtain ⟨e2, d, _⟩ := HC.out j h1
      subst e2
      cases hv : hs.getD j true with
      | true =>
        rw [hv] at d
        have HV := hide hv
        clear hv
        go_wp2_with fail
        go_roundw
        case rel => exact ⟨j + 1, by omega, by go_num, by rw [sumB, ← HCn.out, HV.out]; go_num, trivial⟩
        case measure => simp [intOf]; omega
      | false =>
        rw [hv] at d
        have HV := hide hv
        clear hv
        go_wp2_with fail
        go_roundw
        case rel => exact ⟨j + 1, by omega, by go_num, by rw [sumB, ← HCn.out, HV.out]; rfl, trivial⟩
        case measure => simp [intOf]; omega
    · obtain rfl : j = bl := by omega
      go_wp2_with fail
      go_ret
      refine ⟨?_, rfl⟩
      rw [HCn.out, ← HLen.out, sumB_held]
      rfl

end Go.Proofs.YtnikjcinleghbaaDoor
