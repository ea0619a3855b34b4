/-
  The digest of parts ('Sum' of package digest), and Digests that no call made; conditions as each theorem has them.
-/
import Derived.Test.YtaibdmmacncejaaDoorI
set_option linter.unusedSimpArgs false
set_option linter.unusedVariables false
namespace Go.Proofs.YtaibdmmacncejaaDoor
open Go.RowKit

theorem Src.keep {w w' : World} {a : Option Addr} {len cap : Nat} {l : List Nat} (h : Src w a len cap l) (hk : 0 < len → ∀ b o, a = some ⟨b, o, none⟩ → w'.heap[b]? = w.heap[b]?) (hs : w.heap.size ≤ w'.heap.size) : Src w' a len cap l := by
  refine ⟨h.hlen, h.hcap, h.hmax, h.nil, fun h0 => ?_, h.byte⟩
  obtain ⟨b, o, e, hb, hc⟩ := h.lies h0
  exact ⟨b, o, e, by omega, fun i hi => (World.cell?_of_block (hk h0 b o e)).trans (hc i hi)⟩
theorem Src.below {w w' : World} {a : Option Addr} {len cap : Nat} {l : List Nat} (h : Src w a len cap l) (k : Below w.heap.size w w') : Src w' a len cap l := by
  refine h.keep (fun h0 b o e => ?_) k.size
  obtain ⟨b', o', e', hb, hc⟩ := h.lies h0
  rw [e] at e'
  simp only [Option.some.injEq, Addr.mk.injEq, and_true] at e'
  exact k.block b (by omega)
theorem Src.off {w : World} {a : Option Addr} {len cap : Nat} {l : List Nat} (h : Src w a len cap l) {r : Nat} (hr : w.heap.size ≤ r) : Off a len r := by
  intro h0 b o e
  obtain ⟨b', o', e', hb, hc⟩ := h.lies h0
  rw [e] at e'
  simp only [Option.some.injEq, Addr.mk.injEq, and_true] at e'
  omega

/-- A slice of slices of bytes. -/
structure Parts (w : World) (a : Option Addr) (n cap : Nat) (ps : List (List Nat)) : Prop where
  hlen : ps.length = n
  hcap : n ≤ cap
  hmax : cap ≤ maxLen
  nil : a = none → cap = 0
  lies : 0 < n → ∃ b o, a = some ⟨b, o, none⟩ ∧ b < w.heap.size ∧ ∀ i, i < n → ∃ ai li ci, w.cell? ⟨b, o + i, none⟩ = some (.slice ai li ci) ∧ Src w ai li ci (ps.getD i [])

theorem take_flat (ps : List (List Nat)) (k : Nat) (h : k < ps.length) : (ps.take (k + 1)).flatten = (ps.take k).flatten ++ ps.getD k [] := by
  rw [List.take_succ_eq_append_getElem h, List.flatten_append]
  simp [List.getD, List.getElem?_eq_getElem h]
theorem flat_le (ps : List (List Nat)) (k : Nat) : ((ps.take k).flatten).length ≤ ps.flatten.length := by
  have : ps.flatten = (ps.take k).flatten ++ (ps.drop k).flatten := by rw [← List.flatten_append, List.take_append_drop]
  rw [this, List.length_append]; omega

set_option maxRecDepth 100000 in
set_option maxHeartbeats 1000000 in
theorem sum_at (a : Option Addr) (n cap : Nat) (ps : List (List Nat)) (w : World) (hT : Tabs w) (hp : Parts w a n cap ps) (hl : ps.flatten.length < 576460752303423488) :
    Calls Tryd.prog 9 #[.slice a n cap] w fun e w' => e = .returned (.agg (nums .u8 (dig ps.flatten)).toArray) ∧ Below w.heap.size w w' := by
  have HT := hide hT
  have HP := hide hp
  have hz24 := zero24
  have h2 := hT.size
  have hcm := hp.hmax
  have hnc := hp.hcap
  unfold maxLen at hcm
  obtain ⟨W1, hW1⟩ : ∃ W1, W1 = w.alloc (.cells z32 24) := ⟨_, rfl⟩
  have hs1 : W1.heap.size = w.heap.size + 1 := by rw [hW1]; simp
  have hb1 : Below w.heap.size w W1 := by rw [hW1]; exact (Below.refl _ _).alloc (Nat.le_refl _) _
  have hz1 : Row W1 w.heap.size 24 z32.toList := by rw [hW1]; exact Row.new w z32 24
  have hAl : w.alloc (.cells z32 24) = W1 := hW1.symm
  have HB1 := hide hb1
  have HZ1 := hide hz1
  clear hT hp hW1 hb1 hz1
  go_enter Tryd.func9, Tryd.ntmps9
  go_wp2_with fail
  refine (new_at W1 (HT.out.below HB1.out h2)).mono ?_
  rintro e w2 ⟨rfl, d2, b2⟩
  rw [hs1] at d2 b2 ⊢
  have D2 := hide d2
  have HB2 : Hid (Below w.heap.size w w2) := HB1.out.trans (b2.mono (by omega))
  have HZ2 : Hid (Row w2 w.heap.size 24 z32.toList) := HZ1.out.below b2 (by omega)
  clear d2 b2 HB1 HZ1 hz24
  go_wp2_with fail
  go_loopw [9] (fun i wr => ∃ k : Nat, k ≤ n ∧ i = .int .i64 k ∧ Hid (IsDig wr (w.heap.size + 1) (ps.take k).flatten ∧ Row wr w.heap.size 24 z32.toList ∧ Below w.heap.size w wr)) (fun i _ => n - (intOf i).toNat)
  case atStart => exact ⟨0, by omega, rfl, D2.out, HZ2.out, HB2.out⟩
  case round =>
    obtain ⟨k, hk, rfl, HI⟩ := hrel
    by_cases h1 : k < n
    · obtain ⟨i1, i2, i3⟩ := HI.out
      obtain ⟨b, o, rfl, hb, hc⟩ := HP.out.lies (by omega)
      obtain ⟨ai, li, ci, hcell, hsrc⟩ := hc k h1
      have e1 : wr.cell? ⟨b, o + k, none⟩ = some (.slice ai li ci) := (i3.cell (p := ⟨b, o + k, none⟩) hb).trans hcell
      have hs := hsrc.below i3
      have hoff := hsrc.off (r := w.heap.size + 1) (by omega)
      have htf := take_flat ps k (by rw [HP.out.hlen]; exact h1)
      have hle := flat_le ps (k + 1)
      rw [htf, List.length_append, hsrc.hlen] at hle
      have HS := hide hs
      have HO := hide hoff
      have HF := hide htf
      have I1 := hide i1
      have I2 := hide i2
      have I3 := hide i3
      have hkI : (k : Int) < n := by omega
      clear i1 i2 i3 hs hoff htf hc hcell hsrc HI
      go_wp2_with fail
      refine (add_at (w.heap.size + 1) _ ai li ci _ wr (HT.out.below I3.out h2) I1.out HS.out HO.out (by omega)).mono ?_
      rintro e w3 ⟨rfl, d3, k3⟩
      have D3 := hide d3
      have K3 := hide k3
      clear d3 k3
      go_wp2_with fail
      go_roundw
      case rel =>
        refine ⟨k + 1, by omega, by go_num, ?_, I2.out.kept K3.out (by omega) (by omega), I3.out.trans (K3.out.below (by omega) (by omega) I3.out.size)⟩
        rw [HF.out]
        exact D3.out
      case measure => simp [intOf]; omega
    · obtain ⟨i1, i2, i3⟩ := HI.out
      have ek : (ps.take k).flatten = ps.flatten := by rw [List.take_of_length_le (by rw [HP.out.hlen]; omega)]
      rw [ek] at i1
      have I1 := hide i1
      have I2 := hide i2
      have I3 := hide i3
      clear i1 i2 i3 HI ek
      go_wp2_with fail
      refine (dsum_at (w.heap.size + 1) ps.flatten wr (HT.out.below I3.out h2) I1.out hl).mono ?_
      rintro e w5 ⟨rfl, b5⟩
      have hz5 : Row w5 w.heap.size 24 z32.toList := I2.out.below b5 I2.out.lt
      have hb5 : Below w.heap.size w w5 := I3.out.trans (b5.mono I3.out.size)
      obtain ⟨V, hV⟩ : ∃ V, V = (nums .u8 (dig ps.flatten)).toArray := ⟨_, rfl⟩
      have hsV : V.size = 32 := by rw [hV]; simp [nums, dig_length]
      have hall : V.all (·.oneCell') = true := by rw [hV]; exact nums_all _ _
      obtain ⟨W6, hW6⟩ : ∃ W6, W6 = w5.setRow w.heap.size V := ⟨_, rfl⟩
      have hrow : W6.heap[w.heap.size]? = some (.cells V 24) := by rw [hW6]; exact setRow_heap _ _ _ _ _ _ hz5
      rw [← hV]
      have HV := hide hV
      have HSV := hide hsV
      have HALL := hide hall
      have HW6 := hide hW6
      have HROW := hide hrow
      have HZ5 := hide hz5
      have HB5 := hide hb5
      clear hV hsV hall hW6 hrow hz5 hb5 b5
      go_wp2_with (refine wpList_store_rowW rfl 24 _ _ rfl w.heap.size V rfl rfl 24 z32 HZ5.out (by rw [HSV.out]; exact info24) (by rw [HSV.out]; rfl) HALL.out W6 HW6.out ?_)
      refine bodyPost_ret (results_cell_row rfl _ _ w.heap.size 24 V _ _ rfl HROW.out Tryd.underlying24 rfl (by rw [HSV.out]; exact info24)) rfl ⟨by rw [HV.out], ?_⟩
      rw [HW6.out]
      exact HB5.out.trans (((Kept.refl w.heap.size w.heap.size w5).setRow (Or.inl rfl) _).below (Nat.le_refl _) (Nat.le_refl _) HB5.out.size)

set_option maxHeartbeats 400000 in
theorem add_nil (v : Value) (w : World) : Calls Tryd.prog 15 #[.pointer none, v] w fun e w' => e = .returned (.tuple #[]) ∧ w = w' := by
  go_enter Tryd.func15, Tryd.ntmps15
  go_wp2_with fail
  refine (isMade_nil _).mono ?_
  rintro e w1 ⟨rfl, rfl⟩
  go_wp2
  go_returns
  exact ⟨rfl, rfl⟩
set_option maxHeartbeats 400000 in
theorem add_un (r : Nat) (v : Value) (w : World) (h : w.cell? ⟨r, 0, none⟩ = some (.bool false)) : Calls Tryd.prog 15 #[.pointer (some ⟨r, 0, none⟩), v] w fun e w' => e = .returned (.tuple #[]) ∧ w = w' := by
  go_enter Tryd.func15, Tryd.ntmps15
  go_wp2_with fail
  refine (isMade_at r false _ h).mono ?_
  rintro e w1 ⟨rfl, rfl⟩
  go_wp2
  go_returns
  exact ⟨rfl, rfl⟩
end Go.Proofs.YtaibdmmacncejaaDoor
