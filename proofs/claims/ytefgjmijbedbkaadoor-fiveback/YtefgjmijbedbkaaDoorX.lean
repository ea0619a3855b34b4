/-
  Choice, Verdict, Login, Greeting of package five; conditions as each theorem has them.
-/
import Derived.Test.YtefgjmijbedbkaaDoorS
import Derived.Test.YtefgjmijbedbkaaDoorU
set_option linter.unusedSimpArgs false
set_option linter.unusedVariables false
namespace Go.Proofs.YtefgjmijbedbkaaDoor
open Go.RowKit

/-- What of a reader is seen behind it. -/
theorem Rdr.out {w w' : World} {a : Option Addr} {n c : Nat} {b : List Nat} {s : Sr} {G : Nat} (h : Rdr w' G a n c b s) (k : Kept G G w w') (hG : w.heap.size ≤ G) : ∃ v, w'.cell? ⟨G, 1, none⟩ = some (.int .i64 (s.1 : Nat)) ∧ w'.cell? ⟨G, 2, none⟩ = some v ∧ IsF w' s.2 v ∧ Below w.heap.size w w' := by
  obtain ⟨⟨v, h1, h2⟩, _⟩ := h
  exact ⟨v, h1.cell 1, h1.cell 2, h2, ⟨k.os, k.tape, k.output, k.size, fun i hi => k.block i hi (by omega) (by omega)⟩⟩

theorem pair_bad {b : List Nat} {v : Nat} (h : (pair b v).2.2 ≠ .ok) : pair b v = (0, 0, (pair b v).2.2) := by
  unfold pair at h ⊢
  split
  · rename_i h1
    rw [if_pos h1] at h
    split
    · rfl
    · rename_i h2
      rw [if_neg h2] at h
      exact absurd rfl h
  · rfl
theorem txt_bad {b : List Nat} {a m : Nat} (h : (txt b a m).2.2 ≠ .ok) : txt b a m = ([], 0, (txt b a m).2.2) := by
  unfold txt at h ⊢
  split
  · rfl
  · rename_i h1
    rw [if_neg h1] at h
    split
    · rfl
    · rename_i h2
      rw [if_neg h2] at h
      split
      · rfl
      · rename_i h3
        rw [if_neg h3] at h
        exact absurd rfl h
theorem greet_bad {b : List Nat} (h : (greet b).2.2 ≠ .ok) : greet b = ([], 0, (greet b).2.2) := by
  unfold greet at h ⊢
  split
  · rename_i h1
    rw [if_pos h1] at h
    exact txt_bad h
  · rfl
theorem login_bad {b : List Nat} (h : (login b).2.2.2 ≠ .ok) : login b = ([], [], 0, (login b).2.2.2) := by
  unfold login at h ⊢
  split
  · rename_i h1
    rw [if_pos h1] at h
    split
    · rename_i h2
      rw [if_pos h2] at h
      split
      · rename_i h3
        rw [if_pos h3] at h
        exact absurd rfl h
      · rfl
    · rfl
  · rfl
set_option maxHeartbeats 1000000 in
theorem readPair_at (v : Nat) (a : Option Addr) (n c : Nat) (b : List Nat) (w : World) (h : Src w a n c b) (hv : v < 256) :
    Calls Tryd.prog 48 #[.slice a n c, .int .u8 v] w fun e w' => ∃ u, e = .returned (.tuple #[.int .i64 ((pair b v).1 : Nat), .int .i64 ((pair b v).2.1 : Nat), u]) ∧ IsF w' (pair b v).2.2 u ∧ Below w.heap.size w w' := by
  obtain ⟨W0, hW0⟩ : ∃ W0, W0 = w.alloc (.cells #[.slice a n c, .int .i64 0, .nilIface] 74) := ⟨_, rfl⟩
  have HR := hide (Rdr.new w h)
  rw [← hW0] at HR
  have HB : Hid (Kept w.heap.size w.heap.size w W0) := by rw [hW0]; exact (Kept.refl _ _ _).alloc _
  have HW0 := hide hW0.symm
  have HVr := hide (version_at w.heap.size a n c b (0, .ok) v W0 HR.out hv)
  clear h hW0
  go_enter Tryd.func48, Tryd.ntmps48
  go_wp2_with fail
  rw [HW0.out]
  refine HVr.out.mono ?_
  rintro e w1 ⟨rfl, r1, k1⟩
  obtain ⟨s1, hs1⟩ : ∃ s1, s1 = wantS b v 70 (0, .ok) := ⟨_, rfl⟩
  rw [← hs1] at r1
  have HP := hide (pair_st b v s1 hs1)
  have HN := hide (next_at w.heap.size a n c b s1 w1 r1)
  have hlt := nx_lt r1.src.byte s1
  have K1 := hide (HB.out.trans k1)
  clear r1 k1 hs1
  go_wp2_with fail
  refine HN.out.mono ?_
  rintro e w2 ⟨rfl, r2, k2⟩
  obtain ⟨u, c1, c2, hf, hb⟩ := r2.out (K1.out.trans k2) (Nat.le_refl _)
  have HB2 := hide hb
  have HF := hide hf
  obtain ⟨p1, p2⟩ := HP.out
  by_cases hok : (tkS b 1 s1).2 = .ok
  · obtain rfl := hf.nil hok
    obtain ⟨q1, q2⟩ := p2 hok
    have HE : Hid (pair b v = (nxV b s1, (tkS b 1 s1).1, .ok)) := Prod.ext q2.symm (Prod.ext q1.symm (by rw [← p1, hok]))
    generalize (tkS b 1 s1).1 = K at c1 HE
    generalize nxV b s1 = q at HE hlt
    clear r2 k2 hf hb p1 p2 q1 q2 hok HN HP
    go_wp2_with fail
    go_region
    go_wp2_with fail
    go_returns
    refine ⟨.nilIface, ?_, ?_, HB2.out.drew⟩
    · rw [HE.out]; rfl
    · rw [HE.out]; rfl
  · obtain ⟨x1, rfl⟩ := hf.ptr hok
    have HE : Hid (pair b v = (0, 0, (tkS b 1 s1).2)) := by
      show _ = _
      rw [p1]
      exact pair_bad (by rw [← p1]; exact hok)
    clear r2 k2 hf hb p1 p2 hok HN HP
    go_wp2_with fail
    go_region
    go_wp2_with fail
    go_returns
    refine ⟨.iface 99 (.pointer (some ⟨x1, 0, none⟩)), ?_, ?_, HB2.out.drew⟩
    · rw [HE.out]; rfl
    · rw [HE.out]; exact HF.out.keep fun _ _ _ => rfl
set_option maxHeartbeats 1000000 in
theorem choice_at (a : Option Addr) (n c : Nat) (b : List Nat) (w : World) (h : Src w a n c b) :
    Calls Tryd.prog 18 #[.slice a n c] w fun e w' => ∃ u, e = .returned (.tuple #[.int .i64 ((pair b 5).1 : Nat), .int .i64 ((pair b 5).2.1 : Nat), u]) ∧ IsF w' (pair b 5).2.2 u ∧ Below w.heap.size w w' := by
  have HR := hide (readPair_at 5 a n c b w h (by omega))
  clear h
  go_enter Tryd.func18, Tryd.ntmps18
  go_wp2_with fail
  refine HR.out.mono ?_
  rintro e w1 ⟨u, rfl, hf, hb⟩
  have HF := hide hf
  have HB := hide hb
  clear hf hb
  go_wp2_with fail
  go_returns
  exact ⟨u, rfl, HF.out, HB.out⟩
set_option maxHeartbeats 1000000 in
theorem verdict_at (a : Option Addr) (n c : Nat) (b : List Nat) (w : World) (h : Src w a n c b) :
    Calls Tryd.prog 20 #[.slice a n c] w fun e w' => ∃ u, e = .returned (.tuple #[.int .i64 ((pair b 1).1 : Nat), .int .i64 ((pair b 1).2.1 : Nat), u]) ∧ IsF w' (pair b 1).2.2 u ∧ Below w.heap.size w w' := by
  have HR := hide (readPair_at 1 a n c b w h (by omega))
  clear h
  go_enter Tryd.func20, Tryd.ntmps20
  go_wp2_with fail
  refine HR.out.mono ?_
  rintro e w1 ⟨u, rfl, hf, hb⟩
  have HF := hide hf
  have HB := hide hb
  clear hf hb
  go_wp2_with fail
  go_returns
  exact ⟨u, rfl, HF.out, HB.out⟩

set_option maxRecDepth 100000 in
set_option maxHeartbeats 2000000 in
theorem login_at (a : Option Addr) (n c : Nat) (b : List Nat) (w : World) (h : Src w a n c b) :
    Calls Tryd.prog 13 #[.slice a n c] w fun e w' => ∃ u, e = .returned (.tuple #[.string (strN (login b).1), .string (strN (login b).2.1), .int .i64 ((login b).2.2.1 : Nat), u]) ∧ IsF w' (login b).2.2.2 u ∧ Below w.heap.size w w' := by
  obtain ⟨W0, hW0⟩ : ∃ W0, W0 = w.alloc (.cells #[.slice a n c, .int .i64 0, .nilIface] 74) := ⟨_, rfl⟩
  have HR := hide (Rdr.new w h)
  rw [← hW0] at HR
  have HB : Hid (Kept w.heap.size w.heap.size w W0) := by rw [hW0]; exact (Kept.refl _ _ _).alloc _
  have HW0 := hide hW0.symm
  have HVr := hide (version_at w.heap.size a n c b (0, .ok) 1 W0 HR.out (by omega))
  clear h hW0
  go_enter Tryd.func13, Tryd.ntmps13
  go_wp2_with fail
  rw [HW0.out]
  refine HVr.out.mono ?_
  rintro e w1 ⟨rfl, r1, k1⟩
  obtain ⟨s1, hs1⟩ : ∃ s1, s1 = wantS b 1 70 (0, .ok) := ⟨_, rfl⟩
  obtain ⟨s2, hs2⟩ : ∃ s2, s2 = cdS b 255 s1 := ⟨_, rfl⟩
  obtain ⟨s3, hs3⟩ : ∃ s3, s3 = cdS b 255 s2 := ⟨_, rfl⟩
  have HP := hide (login_st b s1 s2 s3 hs1 hs2 hs3)
  rw [← hs1] at r1
  have HC := hide (counted_at w.heap.size a n c b s1 255 w1 r1)
  rw [← hs2] at HC
  have K1 := hide (HB.out.trans k1)
  have HS3 := hide hs3
  clear r1 k1 hs1 hs2 hs3
  go_wp2_with fail
  refine HC.out.mono ?_
  rintro e w2 ⟨x, l, y, rfl, r2, k2, p2⟩
  have HC2 := hide (counted_at w.heap.size a n c b s2 255 w2 r2)
  rw [← HS3.out] at HC2
  have K2 := hide (K1.out.trans k2)
  have P2 := hide p2
  clear r2 k2 p2
  go_wp2_with fail
  refine HC2.out.mono ?_
  rintro e w3 ⟨x', l', y', rfl, r3, k3, p3⟩
  obtain ⟨u, c1, c2, hf, hb⟩ := r3.out (K2.out.trans k3) (Nat.le_refl _)
  have HB2 := hide hb
  have HF := hide hf
  obtain ⟨z1, z2⟩ := HP.out
  by_cases hok : s3.2 = .ok
  · obtain rfl := hf.nil hok
    obtain ⟨q1, q2, q3, q4, q5, q6⟩ := z2 hok
    obtain ⟨rfl, u2, u3⟩ := P2.out q2
    obtain ⟨rfl, u5, u6⟩ := p3 hok
    rw [q4] at u2
    rw [q6] at u5
    have e1 := run_str_src (u2.kept k3 u3)
    have e2 := run_str_src u5
    have e1' : ∀ m, (convert 22 9 (.slice x (nxV b s1) y)).run Tryd.prog (w3.drewN m) = .ok (.string (strN (login b).1)) (w3.drewN m) := fun m => run_str_src ((u2.kept k3 u3).keep (fun _ _ _ _ => rfl) (Nat.le_refl _))
    have HE : Hid ((login b).2.2.1 = s3.1) := q1.symm
    have HE2 : Hid ((login b).2.2.2 = .ok) := by show _ = _; rw [← z1, hok]
    have d1 : (convert 22 9 (.slice x (nxV b s1) y)).run Tryd.prog w3.drew = .ok (.string (strN (login b).1)) w3.drew := run_str_src (u2.kept k3 u3).drew
    have d2 : (convert 22 9 (.slice x' (nxV b s2) y')).run Tryd.prog w3.drew = .ok (.string (strN (login b).2.1)) w3.drew := run_str_src u5.drew
    generalize s3.1 = K at c1 HE
    generalize nxV b s1 = L1 at d1
    generalize nxV b s2 = L2 at d2
    clear r3 k3 hf hb z1 z2 q1 q2 q3 q4 q5 q6 hok HP p3 u2 u3 u5 u6 e1 e2 e1' HC HC2 P2
    go_wp2_with fail
    go_region
    go_wp2_with fail
    go_returns
    refine ⟨.nilIface, ?_, ?_, HB2.out.drew⟩
    · rw [HE.out]
    · rw [HE2.out]; rfl
  · obtain ⟨x1, rfl⟩ := hf.ptr hok
    have HE : Hid (login b = ([], [], 0, s3.2)) := by
      show _ = _
      rw [z1]
      exact login_bad (by rw [← z1]; exact hok)
    clear r3 k3 hf hb z1 z2 hok HP p3 HC HC2 P2
    go_wp2_with fail
    go_region
    go_wp2_with fail
    go_returns
    refine ⟨.iface 99 (.pointer (some ⟨x1, 0, none⟩)), ?_, ?_, HB2.out.drew⟩
    · rw [HE.out]; rfl
    · rw [HE.out]; exact HF.out.keep fun _ _ _ => rfl

/-- A slice of the numbers zs, wherever it lies. -/
structure SrcI (w : World) (a : Option Addr) (len cap : Nat) (zs : List Int) : Prop where
  hlen : zs.length = len
  hcap : len ≤ cap
  hmax : cap ≤ maxLen
  nil : a = none → cap = 0
  lies : 0 < len → ∃ b o, a = some ⟨b, o, none⟩ ∧ b < w.heap.size ∧ ∀ i, i < len → w.cell? ⟨b, o + i, none⟩ = some (.int .i64 (zs.getD i 0))
theorem SrcI.keep {w w' : World} {a : Option Addr} {len cap : Nat} {l : List Int} (h : SrcI w a len cap l) (hk : 0 < len → ∀ b o, a = some ⟨b, o, none⟩ → w'.heap[b]? = w.heap[b]?) (hs : w.heap.size ≤ w'.heap.size) : SrcI w' a len cap l := by
  refine ⟨h.hlen, h.hcap, h.hmax, h.nil, fun h0 => ?_⟩
  obtain ⟨b, o, e, hb, hc⟩ := h.lies h0
  exact ⟨b, o, e, by omega, fun i hi => (World.cell?_of_block (hk h0 b o e)).trans (hc i hi)⟩
theorem SrcI.lt {w : World} {a : Option Addr} {len cap : Nat} {l : List Int} (h : SrcI w a len cap l) (h0 : 0 < len) {b o : Nat} (e : a = some ⟨b, o, none⟩) : b < w.heap.size := by
  obtain ⟨b', o', e', hb, hc⟩ := h.lies h0
  rw [e] at e'
  simp only [Option.some.injEq, Addr.mk.injEq, and_true] at e'
  omega
theorem SrcI.below {w w' : World} {a : Option Addr} {len cap : Nat} {l : List Int} (h : SrcI w a len cap l) (k : Below w.heap.size w w') : SrcI w' a len cap l :=
  h.keep (fun h0 b o e => k.block b (h.lt h0 e)) k.size
theorem SrcI.drew {w : World} {a : Option Addr} {len cap : Nat} {l : List Int} (h : SrcI w a len cap l) : SrcI w.drew a len cap l := h.keep (fun _ _ _ _ => rfl) (Nat.le_refl _)
theorem SrcI.nilS (w : World) : SrcI w none 0 0 [] := ⟨rfl, Nat.le_refl _, Nat.zero_le _, fun _ => rfl, fun h => by omega⟩
def up (l : List Nat) : List Int := l.map fun (x : Nat) => (x : Int)
theorem up_length (l : List Nat) : (up l).length = l.length := by simp [up]
theorem up_getD (l : List Nat) (i : Nat) : (up l).getD i 0 = (l.getD i 0 : Nat) := by
  simp only [up, List.getD, List.getElem?_map]
  cases l[i]? <;> rfl
theorem info3p : ∃ i, Tryd.prog.info? 3 = some i ∧ i.zero = some (.int .i64 0) ∧ i.size = 1 ∧ i.bytes = 8 := info_parts (by kernel_rfl)
theorem info3' : (Tryd.prog.info? 3).map (fun i => (i.zero, i.size, i.bytes)) = some (some (.int .i64 0), 1, 8) := by kernel_rfl
theorem run_make_i (n : Nat) (hn : n ≤ 65536) (w : World) : (Instr.makeSlice 24 (.int .i64 n) (.int .i64 n)).run Tryd.prog w = .ok (.slice (some ⟨w.heap.size, 0, none⟩) n n) (w.alloc (.cells (nums .i64 (List.replicate n 0)).toArray 3)) := by
  have h := run_make_row' (P := Tryd.prog) 24 3 (.int .i64 0) 8 Tryd.underlying24 info3' rfl .i64 .i64 n (by omega) (by omega) w
  rw [h]
  have e : madeCells #[Value.int .i64 0] n = (nums .i64 (List.replicate n 0)).toArray := by
    rw [← Array.toList_inj, toList_madeCells_one]
    simp [nums]
  rw [e]
set_option maxRecDepth 100000 in
set_option maxHeartbeats 2000000 in
theorem numbers_at (x : Option Addr) (l y : Nat) (p : List Nat) (w : World) (h : Src w x l y p) (hl : l ≤ 255) :
    Calls Tryd.prog 40 #[.slice x l y] w fun e w' => ∃ x' y', e = .returned (.slice x' l y') ∧ SrcI w' x' l y' (up p) ∧ Below w.heap.size w w' := by
  have hmk := run_make_i l (by omega)
  have H := hide h
  have hpl := h.hlen
  have hyl := h.hcap
  have hym := h.hmax
  unfold maxLen at hym
  obtain ⟨W0, hW0⟩ : ∃ W0, W0 = w.alloc (.cells (nums .i64 (List.replicate l 0)).toArray 3) := ⟨_, rfl⟩
  have HI : Hid (Row W0 w.heap.size 3 (nums .i64 (p.take 0 ++ List.replicate (l - 0) 0)) ∧ Below w.heap.size w W0) := by
    rw [hW0]
    exact ⟨by simpa using Row.new w (nums .i64 (List.replicate l 0)).toArray 3, (Below.refl _ _).alloc (Nat.le_refl _) _⟩
  have HW0 := hide hW0.symm
  clear h hW0
  go_enter Tryd.func40, Tryd.ntmps40
  go_wp2_with fail
  rw [HW0.out]
  clear hmk
  go_loopw [11] (fun i wr => ∃ k : Nat, k ≤ l ∧ i = .int .i64 k ∧ Hid (Row wr w.heap.size 3 (nums .i64 (p.take k ++ List.replicate (l - k) 0)) ∧ Below w.heap.size w wr)) (fun i _ => l - (intOf i).toNat)
  case atStart => exact ⟨0, by omega, rfl, HI.out⟩
  case round =>
    obtain ⟨k, hk, rfl, HJ⟩ := hrel
    obtain ⟨i1, i2⟩ := HJ.out
    by_cases hkl : k < l
    · have hd : decide ((k : Int) < (l : Int)) = true := decide_eq_true (by omega)
      obtain ⟨xb, xo, rfl, hxl, hc⟩ := H.out.lies (by omega)
      have hc1 : wr.cell? ⟨xb, xo + k, none⟩ = some (.int .u8 (p.getD k 0 : Nat)) := (i2.cell (p := ⟨xb, xo + k, none⟩) hxl).trans (hc k hkl)
      have hlen : (p.take k ++ List.replicate (l - k) 0).length = l := by rw [List.length_append, List.length_take, List.length_replicate]; omega
      have hc2 := i1.num0 (j := k) (by rw [hlen]; exact hkl)
      have hf2 := i1.frozen k
      have hb := getD_lt H.out.byte k
      have hst := i1.setNum0 k (p.getD k 0)
      have e1 : (p.take k ++ List.replicate (l - k) 0).set k (p.getD k 0) = p.take (k + 1) ++ List.replicate (l - (k + 1)) 0 := by
        rw [List.set_append_right _ _ (by rw [List.length_take]; omega), List.length_take, Nat.min_eq_left (by omega), Nat.sub_self, show l - k = (l - (k + 1)) + 1 by omega, List.replicate_succ, List.set_cons_zero, take_snoc p k (by omega), List.append_assoc]
        rfl
      rw [e1] at hst
      have HS := hide hst
      have HB2 := hide (i2.setCell (p := ⟨w.heap.size, k, none⟩) (Nat.le_refl _) (.int .i64 (p.getD k 0 : Nat)))
      generalize p.getD k 0 = z at hc1 hb HS HB2
      clear i1 i2 HJ hlen e1 hst hc
      go_wp2_with fail
      go_roundw
      case rel => exact ⟨k + 1, by omega, by go_num, HS.out, HB2.out⟩
      case measure => simp [intOf]; omega
    · have hd : decide ((k : Int) < (l : Int)) = false := decide_eq_false (by omega)
      obtain rfl : k = l := by omega
      rw [List.take_of_length_le (by omega), Nat.sub_self, List.replicate_zero, List.append_nil] at i1
      have HS : Hid (SrcI wr (some ⟨w.heap.size, 0, none⟩) k k (up p)) := by
        refine ⟨by rw [up_length]; exact hpl, Nat.le_refl _, by unfold maxLen; omega, (by intro e; cases e), fun _ => ⟨w.heap.size, 0, rfl, i1.lt, fun i hi => ?_⟩⟩
        rw [up_getD, Nat.zero_add]
        exact i1.num0 (by omega)
      have HB2 := hide i2
      clear i1 i2 HJ
      go_wp2_with fail
      go_ret
      exact ⟨_, _, rfl, HS.out, HB2.out⟩

set_option maxRecDepth 100000 in
set_option maxHeartbeats 2000000 in
theorem greeting_at (a : Option Addr) (n c : Nat) (b : List Nat) (w : World) (h : Src w a n c b) :
    Calls Tryd.prog 9 #[.slice a n c] w fun e w' => ∃ x y u, e = .returned (.tuple #[.slice x (greet b).1.length y, .int .i64 ((greet b).2.1 : Nat), u]) ∧ SrcI w' x (greet b).1.length y (up (greet b).1) ∧ IsF w' (greet b).2.2 u ∧ Below w.heap.size w w' := by
  obtain ⟨W0, hW0⟩ : ∃ W0, W0 = w.alloc (.cells #[.slice a n c, .int .i64 0, .nilIface] 74) := ⟨_, rfl⟩
  have HR := hide (Rdr.new w h)
  rw [← hW0] at HR
  have HB : Hid (Kept w.heap.size w.heap.size w W0) := by rw [hW0]; exact (Kept.refl _ _ _).alloc _
  have HW0 := hide hW0.symm
  have HVr := hide (version_at w.heap.size a n c b (0, .ok) 5 W0 HR.out (by omega))
  clear h hW0
  go_enter Tryd.func9, Tryd.ntmps9
  go_wp2_with fail
  rw [HW0.out]
  refine HVr.out.mono ?_
  rintro e w1 ⟨rfl, r1, k1⟩
  have HP := hide (greet_st b)
  obtain ⟨s1, hs1⟩ : ∃ s1, s1 = wantS b 5 70 (0, .ok) := ⟨_, rfl⟩
  rw [← hs1] at r1 HP
  have HC := hide (counted_at w.heap.size a n c b s1 255 w1 r1)
  have hlt := nx_lt r1.src.byte s1
  have K1 := hide (HB.out.trans k1)
  clear r1 k1 hs1
  go_wp2_with fail
  refine HC.out.mono ?_
  rintro e w2 ⟨x, l, y, rfl, r2, k2, p2⟩
  obtain ⟨u, c1, c2, hf, hb⟩ := r2.out (K1.out.trans k2) (Nat.le_refl _)
  have HB2 := hide hb
  have HF := hide hf
  obtain ⟨z1, z2⟩ := HP.out
  by_cases hok : (cdS b 255 s1).2 = .ok
  · obtain rfl := hf.nil hok
    obtain ⟨q1, q2, q3⟩ := z2 hok
    obtain ⟨rfl, u2, u3⟩ := p2 hok
    rw [q3] at u2
    have hl2 : (greet b).1.length = nxV b s1 := u2.hlen
    have HE : Hid ((greet b).2.1 = (cdS b 255 s1).1) := q1.symm
    have HE2 : Hid ((greet b).2.2 = .ok) := by show _ = _; rw [← z1, hok]
    have HNU := hide (numbers_at x (nxV b s1) y (greet b).1 w2.drew u2.drew (by omega))
    rw [← hl2] at HNU
    have HL := hide hl2
    generalize (cdS b 255 s1).1 = K at c1 HE
    have hGs : w.heap.size < w2.heap.size := lt_of_cell c1
    have HX : Hid (∀ w', Below w2.drew.heap.size w2.drew w' → w'.cell? ⟨w.heap.size, 1, none⟩ = some (.int .i64 (K : Nat)) ∧ Below w.heap.size w w') := fun w' k' => by
      have k'' : Below w2.heap.size w2 w' := ⟨k'.os, k'.tape, k'.output, k'.size, k'.block⟩
      exact ⟨(k''.cell (p := ⟨w.heap.size, 1, none⟩) hGs).trans c1, HB2.out.trans (k''.mono (by omega))⟩
    rw [← hl2]
    clear r2 k2 hf hb z1 z2 q1 q2 q3 hok HP p2 u2 u3 HC hl2
    go_wp2_with fail
    go_region_with (first
      | (go_at_call 40; refine HNU.out.mono ?_; rintro e wp ⟨x', y', rfl, sp, bp⟩; have SP := hide sp; have HY := hide (HX.out wp bp); have cy := HY.out.1; clear sp bp))
    all_goals (try go_wp2_with fail)
    all_goals go_returns
    all_goals refine ⟨x', y', .nilIface, ?_, ?_, ?_, ?_⟩
    all_goals first
      | exact SP.out
      | exact HY.out.2
      | (rw [HE2.out]; rfl)
      | (rw [HE.out]; rfl)
  · obtain ⟨x1, rfl⟩ := hf.ptr hok
    have HE : Hid (greet b = ([], 0, (cdS b 255 s1).2)) := by
      show _ = _
      rw [z1]
      exact greet_bad (by rw [← z1]; exact hok)
    clear r2 k2 hf hb z1 z2 hok HP p2 HC
    go_wp2_with fail
    go_region
    go_wp2_with fail
    go_returns
    rw [HE.out]
    exact ⟨none, 0, .iface 99 (.pointer (some ⟨x1, 0, none⟩)), rfl, SrcI.nilS _, HF.out.keep fun _ _ _ => rfl, HB2.out.drew⟩
end Go.Proofs.YtefgjmijbedbkaaDoor
