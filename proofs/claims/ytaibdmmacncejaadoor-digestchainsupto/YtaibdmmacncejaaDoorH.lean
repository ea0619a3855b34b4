/-
  Bytes added to a Digest ('Add' of package digest); conditions as each theorem has them.
-/
import Derived.Test.YtaibdmmacncejaaDoorG
set_option linter.unusedSimpArgs false
set_option linter.unusedVariables false
namespace Go.Proofs.YtaibdmmacncejaaDoor
open Go.RowKit

/-- A slice of the bytes l, wherever it lies. -/
structure Src (w : World) (a : Option Addr) (len cap : Nat) (l : List Nat) : Prop where
  hlen : l.length = len
  hcap : len ≤ cap
  hmax : cap ≤ maxLen
  nil : a = none → cap = 0
  lies : 0 < len → ∃ b o, a = some ⟨b, o, none⟩ ∧ b < w.heap.size ∧ ∀ i, i < len → w.cell? ⟨b, o + i, none⟩ = some (.int .u8 (l.getD i 0 : Nat))
  byte : ∀ x ∈ l, x < 256
/-- It does not lie in block r. -/
def Off (a : Option Addr) (len r : Nat) : Prop := 0 < len → ∀ b o, a = some ⟨b, o, none⟩ → b ≠ r

theorem getD_lt {l : List Nat} (h : ∀ x ∈ l, x < 256) (i : Nat) : l.getD i 0 < 256 := by
  rw [List.getD]
  cases e : l[i]? with
  | none => simp
  | some x => simp; exact h x (List.mem_of_getElem? e)

theorem splice_length' (p cs : List Nat) (f : Nat) (hp : p.length = 64) (hn : f + cs.length ≤ 64) : (splice p f cs).length = 64 := by
  simp [splice]; omega
theorem part_more (M p cs : List Nat) (hp : p.length = 64) (h : p.take (M.length % 64) = M.drop (64 * (M.length / 64))) (hn : M.length % 64 + cs.length ≤ 64) :
    (splice p (M.length % 64) cs).take (M.length % 64 + cs.length) = (M ++ cs).drop (64 * (M.length / 64)) := by
  have l1 : (p.take (M.length % 64)).length = M.length % 64 := by rw [List.length_take]; omega
  rw [List.drop_append_of_le_length (by omega), ← h, splice, ← List.append_assoc]
  rw [List.take_append_of_le_length (by rw [List.length_append, l1]; omega)]
  apply List.take_of_length_le
  rw [List.length_append, l1]; omega
theorem mem_splice (p cs : List Nat) (f : Nat) (hp : ∀ i, p.getD i 0 < 256) (hc : ∀ x ∈ cs, x < 256) : ∀ i, (splice p f cs).getD i 0 < 256 := by
  apply getD_lt
  intro x hx
  have hp' : ∀ x ∈ p, x < 256 := by
    intro x hx
    obtain ⟨i, hi⟩ := List.getElem?_of_mem hx
    have := hp i
    rw [List.getD, hi] at this
    exact this
  simp only [splice, List.mem_append] at hx
  rcases hx with hx | hx | hx
  · exact hp' x (List.mem_of_mem_take hx)
  · exact hc x hx
  · exact hp' x (List.mem_of_mem_drop hx)

theorem splice_mid (pre l post cs : List Value) (f : Nat) (h : f + cs.length ≤ l.length) : splice (pre ++ l ++ post) (pre.length + f) cs = pre ++ splice l f cs ++ post := by
  unfold splice
  rw [List.append_assoc, List.take_append, List.drop_append]
  rw [List.take_of_length_le (by omega), List.drop_eq_nil_of_le (by omega), show pre.length + f - pre.length = f by omega, show pre.length + f + cs.length - pre.length = f + cs.length by omega]
  rw [List.take_append_of_le_length (by omega), List.drop_append_of_le_length (by omega)]
  simp
theorem splice_nums (k : IntKind) (a b : List Nat) (f : Nat) : splice (nums k a) f (nums k b) = nums k (splice a f b) := by simp [splice, nums]
theorem splice_dcells (s : St) (p cs : List Nat) (c f : Nat) (hp : p.length = 64) (h : f + cs.length ≤ 64) : splice (dcells s p c) (9 + f) (nums .u8 cs) = dcells s (splice p f cs) c := by
  rw [dcells_part, dcells_part, ← splice_nums]
  exact splice_mid _ _ _ _ f (by rw [nums_length, nums_length]; omega)

theorem und28 : Tryd.prog.underlying 28 = some (.slice (Tryd.prog.elem 28)) := by kernel_rfl
theorem size28 (w : World) : (sizeOf (Tryd.prog.elem 28)).run Tryd.prog w = .ok 1 w := by kernel_rfl
/-- 'b[n:]' of a slice of bytes. -/
theorem run_cut28 (b o L C n L2 C2 : Nat) (hn : n + L2 = L) (hC : n + C2 = C) (hL : L ≤ C) : ∃ x : Addr, (∀ w, (Instr.sliceAt 28 (.slice (some ⟨b, o, none⟩) L C) (some (.int .i64 n)) none none).run Tryd.prog w = .ok (.slice (some x) L2 C2) w) ∧
    (∀ w, (Instr.slice 28 (.slice (some ⟨b, o, none⟩) L C) (some (.int .i64 n)) none none).run Tryd.prog w = .ok (.slice (some x) L2 C2) w) ∧ (0 < L2 → x = ⟨b, o + n, none⟩) := by
  have key : ∀ w, (Instr.slice 28 (.slice (some ⟨b, o, none⟩) L C) (some (.int .i64 n)) none none).run Tryd.prog w = .ok (sliced (some ⟨b, o, none⟩) n L C 1) w := fun w => by
    rw [run_slice_l w 28 _ L C und28 .i64 n (by omega) (by omega), size28]
    rfl
  by_cases h : C = n
  · refine ⟨⟨b, o, none⟩, fun w => ?_, fun w => ?_, fun h0 => by omega⟩
    · rw [run_sliceAt_slice w 28 _ _ _ _ und28, key, sliced, if_pos h, show L - n = L2 by omega, show C - n = C2 by omega]
    · rw [key, sliced, if_pos h, show L - n = L2 by omega, show C - n = C2 by omega]
  · refine ⟨⟨b, o + n, none⟩, fun w => ?_, fun w => ?_, fun _ => rfl⟩
    · rw [run_sliceAt_slice w 28 _ _ _ _ und28, key, sliced, if_neg h, show L - n = L2 by omega, show C - n = C2 by omega, Option.map_some, add_none, Nat.mul_one]
    · rw [key, sliced, if_neg h, show L - n = L2 by omega, show C - n = C2 by omega, Option.map_some, add_none, Nat.mul_one]

theorem bytes_part {w : World} {r : Nat} {s : St} {p : List Nat} {c : Nat} (h : Row w r 43 (dcells s p c)) (hp : p.length = 64) : BytesAt w r 9 p := by
  intro j hj
  rw [dcells_part] at h
  exact h.num (by simp [nums_length, St.list]) hj

set_option maxRecDepth 100000 in
set_option maxHeartbeats 4000000 in
theorem add_at (r : Nat) (m : List Nat) (a : Option Addr) (len cap : Nat) (bs : List Nat) (w : World) (hT : Tabs w) (h : IsDig w r m) (hs : Src w a len cap bs) (ho : Off a len r) (hl : m.length + len < 1152921504606846976) :
    Calls Tryd.prog 15 #[.pointer (some ⟨r, 0, none⟩), .slice a len cap] w fun e w' => e = .returned (.tuple #[]) ∧ IsDig w' r (m ++ bs) ∧ Kept r r w w' := by
  have hr := h.lt
  have h2r := h.two
  have c0 : w.cell? ⟨r, 0, none⟩ = some (.bool true) := by obtain ⟨p, _, h2, _⟩ := h.mem; exact dcells_made h2
  have HT := hide hT
  have H := hide h
  have HS := hide hs
  have HO := hide ho
  have hlc := hs.hcap
  have hcm := hs.hmax
  unfold maxLen at hcm
  clear hT h hs ho
  go_enter Tryd.func15, Tryd.ntmps15
  go_wp2_with fail
  refine (isMade_at r true _ c0).mono ?_
  rintro e w1 ⟨rfl, rfl⟩
  go_wp2_with fail
  go_loopw [1] (fun v wr => ∃ (k : Nat) (a' : Option Addr) (L C : Nat), k ≤ len ∧ v = .slice a' L C ∧ L ≤ C ∧ C ≤ cap ∧ Hid (k + L = len ∧ k + C = cap) ∧ Hid ((k < len → ∃ b o, a' = some ⟨b, o + k, none⟩ ∧ a = some ⟨b, o, none⟩) ∧ IsDig wr r (m ++ bs.take k) ∧ Kept r r w wr)) (fun v _ => match v with | .slice _ n _ => n | _ => 0)
  case atStart =>
    refine ⟨0, a, len, cap, by omega, rfl, hlc, Nat.le_refl _, ⟨by omega, by omega⟩, fun h0 => ?_, ?_, Kept.refl _ _ _⟩
    · obtain ⟨b, o, e, _⟩ := HS.out.lies h0
      exact ⟨b, o, e, e⟩
    · rw [List.take_zero, List.append_nil]; exact H.out
  case round =>
    obtain ⟨k, a', L, C, hk, rfl, hLC, hCc, HLC, HI⟩ := hrel
    by_cases h0 : 0 < L
    · have h1 : k < len := by have := HLC.out; omega
      obtain ⟨hkL, hkC⟩ := HLC.out
      obtain ⟨i1, i2, i3⟩ := HI.out
      obtain ⟨b, o, rfl, ea⟩ := i1 h1
      obtain ⟨b', o', ea', hbl, hcell⟩ := HS.out.lies (by omega)
      rw [ea] at ea'
      simp only [Option.some.injEq, Addr.mk.injEq, and_true] at ea'
      obtain ⟨rfl, rfl⟩ := ea'
      have hbr : b ≠ r := HO.out (by omega) b o ea
      obtain ⟨M, hM⟩ : ∃ M, M = m ++ bs.take k := ⟨_, rfl⟩
      rw [← hM] at i2
      have hMl : M.length = m.length + k := by rw [hM, List.length_append, List.length_take, HS.out.hlen]; omega
      obtain ⟨p, p1, p2, p3, p4⟩ := i2.mem
      obtain ⟨f, hf⟩ : ∃ f, f = M.length % 64 := ⟨_, rfl⟩
      have hf64 : f < 64 := by omega
      obtain ⟨F, hF⟩ : ∃ F, F = 64 - f := ⟨_, rfl⟩
      obtain ⟨n, hn⟩ : ∃ n, n = min (64 - f) L := ⟨_, rfl⟩
      have n1 : n ≤ 64 - f := by omega
      have n2 : n ≤ L := by omega
      have n3 : 0 < n := by omega
      obtain ⟨cs, hcs⟩ : ∃ cs, cs = (bs.drop k).take n := ⟨_, rfl⟩
      have hcsl : cs.length = n := by rw [hcs, List.length_take, List.length_drop, HS.out.hlen]; omega
      have hcsb : ∀ x ∈ cs, x < 256 := by
        intro x hx
        rw [hcs] at hx
        exact HS.out.byte x (List.mem_of_mem_drop (List.mem_of_mem_take hx))
      have hMcs : m ++ bs.take (k + n) = M ++ cs := by rw [hM, hcs, List.append_assoc, List.take_add]
      have hsrc : ∀ j, j < n → wr.cell? ⟨b, o + k + j, none⟩ = some (.int .u8 (cs.getD j 0 : Nat)) := by
        intro j hj
        have e1 := hcell (k + j) (by omega)
        rw [World.cell?_of_block (i3.block b hbl hbr hbr)]
        rw [Nat.add_assoc, e1, hcs]
        congr 3
        simp only [List.getD, List.getElem?_take, List.getElem?_drop, hj, if_true]
      obtain ⟨W4, hrun, r4, k4⟩ := run_copy_seg (P := Tryd.prog) wr.drew 28 28 3 5 Tryd.underlying28 info5 (some ⟨r, 9 + f, none⟩) (some ⟨b, o + k, none⟩) F F L C r (9 + f) _ 43 (Row.drewN p2 1) (nums .u8 cs)
        (by rw [nums_length, hcsl, hn]; show min (64 - f) L = min L F; omega)
        (fun _ => ⟨rfl, _, rfl, fun j v hv => by
          obtain ⟨hj, rfl⟩ := nums_at _ _ _ _ hv
          rw [add_none]
          exact hsrc j (by omega)⟩) (by rw [nums_length, dcells_length _ _ _ p1, hcsl]; omega) (nums_one _ _)
      have e4 := splice_dcells (eat M (M.length / 64)) p cs M.length f p1 (by omega)
      rw [e4] at r4
      obtain ⟨p', hp'⟩ : ∃ p', p' = splice p f cs := ⟨_, rfl⟩
      have p1' : p'.length = 64 := by rw [hp']; exact splice_length' p cs f p1 (by omega)
      have p4' : ∀ i, p'.getD i 0 < 256 := by rw [hp']; exact mem_splice p cs f p4 hcsb
      have p3' := part_more M p cs p1 p3 (by omega)
      rw [← hf, ← hp', hcsl] at p3'
      rw [← hp'] at r4
      obtain ⟨L2, hL2⟩ : ∃ L2, L2 = L - n := ⟨_, rfl⟩
      obtain ⟨C2, hC2⟩ : ∃ C2, C2 = C - n := ⟨_, rfl⟩
      obtain ⟨x, hcut, hcut', hA⟩ := run_cut28 b (o + k) L C n L2 C2 (by omega) (by omega) hLC
      have hpc := run_cut40 r 9 f F (by omega) (by omega)
      obtain ⟨c, hc⟩ : ∃ c, c = M.length := ⟨_, rfl⟩
      rw [← hc] at p2 r4 hf
      have c73 := dcells_count p2 p1
      have d73 := dcells_count r4 p1'
      have df := r4.frozen 73
      have r5 := dcells_setCount r4 p1' (c + n)
      have k5 : Kept r r wr (W4.setCell ⟨r, 73, none⟩ (.int .u64 (c + n : Nat))) := (Kept.of_drewN (n := 1) k4).set _ _
      obtain ⟨c2, hc2⟩ : ∃ c2, c2 = c + n := ⟨_, rfl⟩
      rw [← hc2] at r5 k5
      have hcl : c < 1152921504606846976 := by omega
      have hcl2 : c2 < 1152921504606846976 := by omega
      have hadd : (c : Int) + n = c2 := by omega
      rw [nums_length, hcsl] at hrun
      obtain ⟨W5, hW5⟩ : ∃ W5, W5 = W4.setCell ⟨r, 73, none⟩ (.int .u64 (c2 : Nat)) := ⟨_, rfl⟩
      rw [← hW5] at r5 k5
      have e73 := dcells_count r5 p1'
      have hst : W4.setCell ⟨r, 73, none⟩ (.int .u64 (c2 : Nat)) = W5 := hW5.symm
      have hfl1 : ∀ W : World, W.cell? ⟨r, 73, none⟩ = some (.int .u64 c) → Calls Tryd.prog 25 #[.pointer (some ⟨r, 0, none⟩)] W fun e w' => e = .returned (.int .i64 (f : Nat)) ∧ W = w' := fun W hW => by rw [hf]; exact filled_at r c W hW (by omega)
      obtain ⟨q, hq⟩ : ∃ q, q = c / 64 := ⟨_, rfl⟩
      have hlenM : (M ++ cs).length = c2 := by rw [List.length_append, hcsl, ← hc, hc2]
      rw [← hc] at p3'
      rw [← hq] at p3' r5
      have heat : eat (M ++ cs) q = eat M q := eat_append M cs q (by omega)
      have hbM : ∀ x ∈ M ++ cs, x < 256 := by
        intro x hx
        rcases List.mem_append.1 hx with h | h
        · exact i2.byte x h
        · exact hcsb x h
      obtain ⟨s, hs⟩ : ∃ s, s = eat M q := ⟨_, rfl⟩
      have hsok : s.Ok := by rw [hs]; exact eat_ok M q
      rw [← hs] at r5 heat
      have K5 := hide k5
      have R5 := hide r5
      have HA := hide hA
      have HM := hide hMcs
      have I3 := hide i3
      have P3 := hide p3'
      have P4 := hide p4'
      have P1 := hide p1'
      have HE := hide heat
      have HLM := hide hlenM
      have HBM := hide hbM
      have HSO := hide hsok
      have hnL : n ≤ L := n2
      have hnI : (n : Int) ≤ L := by omega
      have hfI : (f : Int) < 64 := by omega
      have hlim : m.length + len < 1152921504606846976 := hl
      by_cases hfull : f + n = 64
      · have hf2 : c2 % 64 = 0 := by omega
        have hq2 : Hid (c2 / 64 = q + 1) := by show _ = _; omega
        have hfl2 : ∀ W : World, W.cell? ⟨r, 73, none⟩ = some (.int .u64 c2) → Calls Tryd.prog 25 #[.pointer (some ⟨r, 0, none⟩)] W fun e w' => e = .returned (.int .i64 (0 : Nat)) ∧ W = w' := fun W hW => by have := filled_at r c2 W hW (by omega); rw [hf2] at this; exact this
        have HC2 : Hid (c2 = 64 * (q + 1)) := by show _ = _; omega
        have EA := hide ea
        have HLn : L2 + n = L ∧ C2 + n = C := by omega
        have hfull := hide hfull
        clear hf2 hs hsok hbM heat hq hlenM hlim hW5 hc2 hc hC2 hL2 e4 p3' p4' p1' hA i3 hMcs r5 k5 k4 r4 p2 p3 p4 p1 hcell hsrc hcs hcsl hcsb hM hMl hf hn hF hp' i1 i2 HI hkL hkC ea hbl
        go_wp2_with fail
        go_region_held3 (fun w' => True) (trivial) (first | (go_at_call 25; refine (hfl1 _ (by exact c73)).mono ?_; rintro e w1 ⟨rfl, rfl⟩))
        all_goals
          clear hfl1 hrun hpc c73
          go_wp2_with fail
          refine (hfl2 _ e73).mono ?_
          rintro e w1 ⟨rfl, rfl⟩
          clear hfl2 hcut hcut' hadd hst d73 df
          go_wp2_with fail
          go_region_held3 (fun w' => True) (trivial) (first | (go_at_call 26; refine (turn_at r 43 [.bool true] (nums .u8 p' ++ [.int .u64 (c2 : Nat)]) s 9 p' _ rfl HSO.out (by exact ((HT.out.kept I3.out h2r h2r).kept (K5.out.drewN 1) h2r h2r)) h2r (by exact (R5.out.drewN 1)) P4.out P1.out (by exact bytes_part (R5.out.drewN 1) P1.out)).mono ?_; rintro e w6 ⟨rfl, r6, k6⟩))
          all_goals
            have R6 := hide r6
            have K6 := hide k6
            clear r6 k6
            go_wp2_with fail
            go_roundw
            case rel =>
              have hLC' := HLC.out
              refine ⟨k + n, some x, L2, C2, by omega, rfl, by omega, by omega, ⟨by omega, by omega⟩, fun h => ⟨b, o, ?_, EA.out⟩, ?_, (I3.out.trans K5.out).trans (Kept.of_drewN (n := 1) K6.out)⟩
              · rw [HA.out (by omega), Nat.add_assoc]
              · rw [HM.out]
                refine ⟨⟨p', P1.out, ?_, ?_, P4.out⟩, HBM.out, h2r⟩
                · rw [HLM.out, hq2.out, eat, HE.out]
                  have e := P3.out
                  rw [hfull.out, List.take_of_length_le (by rw [P1.out]; omega)] at e
                  rw [← e, List.take_of_length_le (by rw [P1.out]; omega)]
                  exact R6.out
                · rw [HLM.out, HC2.out, show 64 * (q + 1) % 64 = 0 by omega, show 64 * (q + 1) / 64 = q + 1 by omega, List.take_zero, List.drop_eq_nil_of_le (by rw [HLM.out, HC2.out]; omega)]
            case measure => show L2 < L; omega
      · obtain ⟨f2, hf2⟩ : ∃ f2, f2 = f + n := ⟨_, rfl⟩
        have hf2' : c2 % 64 = f2 := by omega
        have hq2 : Hid (c2 / 64 = q) := by show _ = _; omega
        have hfl2 : ∀ W : World, W.cell? ⟨r, 73, none⟩ = some (.int .u64 c2) → Calls Tryd.prog 25 #[.pointer (some ⟨r, 0, none⟩)] W fun e w' => e = .returned (.int .i64 (f2 : Nat)) ∧ W = w' := fun W hW => by rw [← hf2']; exact filled_at r c2 W hW (by omega)
        have hf20 : ((f2 : Int) == 0) = false := by simp; omega
        have EA := hide ea
        have HF2 := hide hf2
        have HF2' := hide hf2'
        have HLn : L2 + n = L ∧ C2 + n = C := by omega
        clear hf2 hf2' hfull hs hsok hbM heat hq hlenM hlim hW5 hc2 hc hC2 hL2 e4 p3' p4' p1' hA i3 hMcs r5 k5 k4 r4 p2 p3 p4 p1 hcell hsrc hcs hcsl hcsb hM hMl hf hn hF hp' i1 i2 HI hkL hkC ea hbl
        go_wp2_with fail
        go_region_held3 (fun w' => True) (trivial) (first | (go_at_call 25; refine (hfl1 _ (by exact c73)).mono ?_; rintro e w1 ⟨rfl, rfl⟩))
        all_goals
          clear hfl1 hrun hpc c73
          go_wp2_with fail
          refine (hfl2 _ e73).mono ?_
          rintro e w1 ⟨rfl, rfl⟩
          clear hfl2 hcut hcut' hadd hst d73 df
          go_wp2_with fail
          go_roundw
          case rel =>
            have hLC' := HLC.out
            refine ⟨k + n, some x, L2, C2, by omega, rfl, by omega, by omega, ⟨by omega, by omega⟩, fun h => ⟨b, o, ?_, EA.out⟩, ?_, I3.out.trans K5.out⟩
            · rw [HA.out (by omega), Nat.add_assoc]
            · rw [HM.out]
              refine ⟨⟨p', P1.out, ?_, ?_, P4.out⟩, HBM.out, h2r⟩
              · rw [HLM.out, hq2.out, HE.out]
                exact R5.out
              · rw [HLM.out, HF2'.out, hq2.out, HF2.out]
                exact P3.out
          case measure => show L2 < L; omega
    · obtain ⟨i1, i2, i3⟩ := HI.out
      obtain rfl : L = 0 := by omega
      have hLC' := HLC.out
      have hk2 : k = len := by omega
      rw [hk2, List.take_of_length_le (by rw [HS.out.hlen]; omega)] at i2
      have I2 := hide i2
      have I3 := hide i3
      clear i1 i2 i3 HI hLC' hk2
      go_wp2_with fail
      go_end0
      exact ⟨rfl, I2.out, I3.out⟩
end Go.Proofs.YtaibdmmacncejaaDoor
