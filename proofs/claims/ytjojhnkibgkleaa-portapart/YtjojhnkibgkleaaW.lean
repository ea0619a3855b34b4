/-
  New of package port, and how many bytes are in use; conditions as each theorem has them.
-/
import Derived.Test.YtjojhnkibgkleaaV
set_option linter.unusedSimpArgs false
set_option linter.unusedVariables false
set_option maxRecDepth 8000
namespace Go.Proofs.Ytjojhnkibgkleaa
open Go.RowKit Go.Lib

def zEn : Array Value := #[.pointer none, .int .i64 0, .int .i64 0, .bool false, .bool false, .bool false]
theorem infoEn : (Try.prog.info? 89).map (fun i => (i.zero, i.size, i.bytes)) = some (some (.agg zEn), 6, 32) := by kernel_rfl
theorem made_row (n : Nat) (w : World) : Row (w.alloc (.cells (madeCells zEn (n * 6)) 89)) w.heap.size (fun _ => .pointer none) (List.replicate n (z 0)) := by
  have hz : zEn.size = 6 := rfl
  refine ⟨(madeCells zEn (n * 6)).toList, by rw [alloc_new, Array.toArray_toList], by rw [Array.length_toList, size_madeCells, List.length_replicate]; omega, fun i hi j hj => ?_⟩
  rw [List.length_replicate] at hi
  rw [at0_rep, Array.getElem?_toList, Array.getElem?_eq_getElem (by rw [size_madeCells]; omega)]
  simp only [madeCells, Array.getElem_map, Array.getElem_range]
  rw [hz, show (i * 6 + j) % 6 = j by omega]
  have : j = 0 ∨ j = 1 ∨ j = 2 ∨ j = 3 ∨ j = 4 ∨ j = 5 := by omega
  rcases this with rfl | rfl | rfl | rfl | rfl | rfl <;> rfl
theorem run_makeE (n : Nat) (hn : n ≤ 128) (w : World) : (Instr.makeSlice 78 (.int .i64 n) (.int .i64 n)).run Try.prog w = .ok (.slice (some ⟨w.heap.size, 0, none⟩) n n) (w.alloc (.cells (madeCells zEn (n * 6)) 89)) := by
  obtain ⟨i, hi, hzz⟩ := Option.map_eq_some_iff.1 infoEn
  simp only [Prod.mk.injEq] at hzz
  obtain ⟨hz, hs, hb⟩ := hzz
  have := run_make (P := Try.prog) w 78 89 i (.agg zEn) Try.underlying78 hi hz .i64 .i64 n n (by omega) (Int.le_refl _) (by rw [hb]; omega) (by omega)
  rw [this, hs, Int.toNat_natCast, show (Value.agg zEn).cells = zEn from rfl]
abbrev badNew (c s n : Int) : Prop := c < 0 ∨ 64 < c ∨ s < 0 ∨ 64 < s ∨ n < 1 ∨ 65536 < n
set_option maxHeartbeats 1000000 in
theorem pnew_bad (c s n : Int) (w : World) (h : badNew c s n) :
    Calls Try.prog 9 #[.int .i64 c, .int .i64 s, .int .i64 n] w fun e w' => e = .returned (.tuple #[.pointer none, .int .i64 2]) ∧ w = w' := by
  by_cases h1 : 0 ≤ c ∧ c ≤ 64
  · have HC := isCount_at c w
    rw [decide_eq_true h1] at HC
    have HC := hide HC
    by_cases h2 : 0 ≤ s ∧ s ≤ 64
    · have HS := isCount_at s w
      rw [decide_eq_true h2] at HS
      have HS := hide HS
      have h3 : n < 1 ∨ 65536 < n := by unfold badNew at h; omega
      clear h1
      clear h2 h
      rcases h3 with h3 | h3
      · go_enter Try.func9, Try.ntmps9
        go_wp2_with fail
        refine HC.out.mono ?_
        rintro x w1 ⟨rfl, rfl⟩
        go_wp2_with fail
        refine HS.out.mono ?_
        rintro x w1 ⟨rfl, rfl⟩
        go_wp2_with fail
        go_ret2
        exact ⟨rfl, rfl⟩
      · go_enter Try.func9, Try.ntmps9
        go_wp2_with fail
        refine HC.out.mono ?_
        rintro x w1 ⟨rfl, rfl⟩
        go_wp2_with fail
        refine HS.out.mono ?_
        rintro x w1 ⟨rfl, rfl⟩
        go_wp2_with fail
        go_ret2
        exact ⟨rfl, rfl⟩
    · have HS := isCount_at s w
      rw [decide_eq_false h2] at HS
      have HS := hide HS
      clear h1 h2 h
      go_enter Try.func9, Try.ntmps9
      go_wp2_with fail
      refine HC.out.mono ?_
      rintro x w1 ⟨rfl, rfl⟩
      go_wp2_with fail
      refine HS.out.mono ?_
      rintro x w1 ⟨rfl, rfl⟩
      go_wp2_with fail
      go_ret2
      exact ⟨rfl, rfl⟩
  · have HC := isCount_at c w
    rw [decide_eq_false h1] at HC
    have HC := hide HC
    clear h1 h
    go_enter Try.func9, Try.ntmps9
    go_wp2_with fail
    refine HC.out.mono ?_
    rintro x w1 ⟨rfl, rfl⟩
    go_wp2_with fail
    go_ret2
    exact ⟨rfl, rfl⟩
/-- A port of which the first k endpoints have their rings. -/
structure Half (B : Nat) (w : World) (b eb c n sz k : Nat) (R G : Nat → Nat) : Prop where
  head : w.heap[b]? = some (.cells #[.bool true, .int .i64 c, .slice (some ⟨eb, 0, none⟩) n n, .slice none 0 0, .slice none 0 0] 80)
  row : Row w eb (fun i => if i < k then rp R i else .pointer none) (List.replicate n (z 0))
  ring : ∀ i, i < k → IsRing w (R i) (G i) sz 0 0 []
  lt : ∀ i, i < k → B ≤ R i ∧ R i < w.heap.size ∧ B ≤ G i ∧ G i < w.heap.size
  inj : ∀ i j, i < k → j < k → i ≠ j → R i ≠ R j ∧ G i ≠ G j
  bb : B ≤ b
  be : B ≤ eb
  ne : b ≠ eb
theorem Half.cells {B : Nat} {w : World} {b eb c n sz k : Nat} {R G : Nat → Nat} (h : Half B w b eb c n sz k R G) : w.cell? ⟨b, 0, none⟩ = some (.bool true) ∧ w.cell? ⟨b, 2, none⟩ = some (.slice (some ⟨eb, 0, none⟩) n n) := by
  have := h.head
  simp [World.cell?, this]
theorem Half.step {B : Nat} {w w3 : World} {b eb c n sz k : Nat} {R G : Nat → Nat} (h : Half B w b eb c n sz k R G) (hk : k < n) (hB : B ≤ w.heap.size) (hb : Below w.heap.size w w3) {r g : Nat} (hr : IsRing w3 r g sz 0 0 []) (hrg : w.heap.size ≤ r ∧ w.heap.size ≤ g) :
    Half B (w3.setCell ⟨eb, k * 6, none⟩ (.pointer (some ⟨r, 0, none⟩))) b eb c n sz (k + 1) (fun i => if i = k then r else R i) (fun i => if i = k then g else G i) := by
  have hbl := lt_of_some h.head
  have hel := h.row.lt
  obtain ⟨⟨c1, e1⟩, ⟨c2, e2⟩⟩ := hr.at_
  have hr1 := lt_of_some e1
  have hg1 := lt_of_some e2
  have hsz : (w3.setCell ⟨eb, k * 6, none⟩ (.pointer (some ⟨r, 0, none⟩))).heap.size = w3.heap.size := by simp [World.setCell]
  have hb' := hb.size
  refine ⟨?_, ?_, fun i hi => ?_, fun i hi => ?_, fun i j hi hj hij => ?_, h.bb, h.be, h.ne⟩
  · rw [Below.heap_setCell _ _ _ _ h.ne, hb.block b hbl]; exact h.head
  · have hrow : Row w3 eb (fun i => if i < k then rp R i else .pointer none) (List.replicate n (z 0)) := h.row.keep (hb.block eb hel)
    have := hrow.set (i := k) (by simpa using hk) (j := 0) (by omega) (.pointer (some ⟨r, 0, none⟩)) (.pointer (some ⟨r, 0, none⟩)) (at0 (List.replicate n (z 0)) k) rfl
    have e0 : (List.replicate n (z 0)).set k (at0 (List.replicate n (z 0)) k) = List.replicate n (z 0) := at0_eta _ _
    rw [e0, Nat.add_zero] at this
    refine cast (congrArg (fun V => Row _ eb V _) ?_) this
    funext i
    unfold upd rp
    by_cases h1 : i = k
    · subst h1; simp
    · simp only [h1, if_false]
      by_cases h2 : i < k
      · rw [if_pos h2, if_pos (by omega)]
      · rw [if_neg h2, if_neg (by omega)]
  · by_cases h1 : i = k
    · subst h1
      simp only [if_true]
      exact hr.keep (Below.heap_setCell _ _ _ _ (by show r ≠ eb; omega)) (Below.heap_setCell _ _ _ _ (by show g ≠ eb; omega))
    · simp only [h1, if_false]
      have hri := h.ring i (by omega)
      obtain ⟨⟨d1, f1⟩, ⟨d2, f2⟩⟩ := hri.at_
      obtain ⟨er, eh, _⟩ := h.row
      exact hri.keep ((Below.heap_setCell _ _ _ _ (ty_ne f1 eh (by decide))).trans (hb.block _ (lt_of_some f1))) ((Below.heap_setCell _ _ _ _ (ty_ne f2 eh (by decide))).trans (hb.block _ (lt_of_some f2)))
  · rw [hsz]
    by_cases h1 : i = k
    · subst h1
      simp only [if_true]
      exact ⟨by omega, hr1, by omega, hg1⟩
    · simp only [h1, if_false]
      have := h.lt i (by omega)
      omega
  · by_cases h1 : i = k
    · have hjk : ¬ j = k := by omega
      simp only [h1, hjk, if_true, if_false]
      have := h.lt j (by omega)
      omega
    · by_cases h2 : j = k
      · simp only [h1, h2, if_true, if_false]
        have := h.lt i (by omega)
        omega
      · simp only [h1, h2, if_false]
        exact h.inj i j (by omega) (by omega) hij
theorem Half.done {B : Nat} {w : World} {b eb c n sz : Nat} {R G : Nat → Nat} (h : Half B w b eb c n sz n R G) (c0 s0 : Nat) (hc : c = c0) (hn : n = c0 + s0) (h1 : c0 ≤ 64) (h2 : s0 ≤ 64) (h3 : 1 ≤ sz) (h4 : sz ≤ 65536) : IsPort w (fun k => B ≤ k ∧ k < w.heap.size) b eb (.slice none 0 0) (.slice none 0 0) R G (newP c0 s0 sz) := by
  subst hc hn
  have hlen : (newP c s0 sz).L.length = c + s0 := by simp [newP]
  refine ⟨by rw [hlen]; exact h.head, ?_, fun i hi => ?_, fun i j hi hj hij => ?_, ⟨rfl, Or.inl ⟨rfl, rfl⟩⟩, setHead_nil, newP_ok h1 h2 h3 h4, fun k hk => hk.2, ⟨h.bb, lt_of_some h.head⟩, ⟨h.be, h.row.lt⟩, fun i hi => ?_, fun g hg => (by cases hg), fun g hg => (by cases hg)⟩
  · obtain ⟨cs, e1, e2, e3⟩ := h.row
    refine ⟨cs, e1, e2, fun i hi j hj => ?_⟩
    have hi' : i < (List.replicate (c + s0) (z 0)).length := hi
    have := e3 i hi' j hj
    rw [List.length_replicate] at hi'
    rw [this]
    simp only [hi', if_true]
    rfl
  · rw [hlen] at hi
    show ∃ ic oc, IsRing w (R i) (G i) sz ic oc (at0 (List.replicate (c + s0) (z 0)) i).q
    rw [at0_rep]
    exact ⟨0, 0, h.ring i hi⟩
  · rw [hlen] at hi hj
    exact h.inj i j hi hj hij
  · rw [hlen] at hi
    have := h.lt i hi
    exact ⟨⟨this.1, this.2.1⟩, this.2.2.1, this.2.2.2⟩
set_option maxRecDepth 100000 in
set_option maxHeartbeats 1000000 in
theorem pnew_at (c s n : Nat) (w : World) (hc : c ≤ 64) (hs : s ≤ 64) (h1 : 1 ≤ n) (h2 : n ≤ 65536) :
    Calls Try.prog 9 #[.int .i64 c, .int .i64 s, .int .i64 n] w fun e w' => ∃ b, e = .returned (.tuple #[.pointer (some ⟨b, 0, none⟩), .int .i64 0]) ∧ Port w' (fun k => w.heap.size ≤ k ∧ k < w'.heap.size) b (newP c s n) ∧ Below w.heap.size w w' := by
  have HC := isCount_at c w
  rw [decide_eq_true ⟨by omega, by omega⟩] at HC
  have HC := hide HC
  have HS := isCount_at s w
  rw [decide_eq_true ⟨by omega, by omega⟩] at HS
  have HS := hide HS
  obtain ⟨N, hN⟩ : ∃ N, N = c + s := ⟨_, rfl⟩
  have hNN : (c : Int) + (s : Int) = (N : Int) := by omega
  have hN8 : N ≤ 128 := by omega
  have hmk := run_makeE N hN8
  obtain ⟨C, hC⟩ : ∃ C, C = madeCells zEn (N * 6) := ⟨_, rfl⟩
  have HROW := made_row N w
  rw [← hC] at hmk HROW
  have HROW := hide HROW
  have HNN := hide hN
  clear hN hC
  go_enter Try.func9, Try.ntmps9
  go_wp2_with fail
  refine HC.out.mono ?_
  rintro x w1 ⟨rfl, rfl⟩
  go_wp2_with fail
  refine HS.out.mono ?_
  rintro x w1 ⟨rfl, rfl⟩
  go_wp2_with fail
  have HH : Hid (Half w.heap.size ((w.alloc (.cells C 89)).alloc (.cells #[.bool true, .int .i64 c, .slice (some ⟨w.heap.size, 0, none⟩) N N, .slice none 0 0, .slice none 0 0] 80)) (w.heap.size + 1) w.heap.size c N n 0 (fun _ => 0) (fun _ => 0)) :=
    ⟨alloc_new2 _ _ _, HROW.out.keep (Below.heap_alloc _ _ _ (by simp)), fun i hi => by omega, fun i hi => by omega, fun i j hi hj => by omega, by omega, Nat.le_refl _, by omega⟩
  have HB : Hid (Below w.heap.size w ((w.alloc (.cells C 89)).alloc (.cells #[.bool true, .int .i64 c, .slice (some ⟨w.heap.size, 0, none⟩) N N, .slice none 0 0, .slice none 0 0] 80))) := ((Below.refl _ _).alloc (Nat.le_refl _) _).alloc (by simp) _
  go_loopw [38] (fun i wr => ∃ (k : Nat) (R G : Nat → Nat), k ≤ N ∧ i = .int .i64 k ∧ Hid (Half w.heap.size wr (w.heap.size + 1) w.heap.size c N n k R G) ∧ Hid (Below w.heap.size w wr)) (fun i _ => N - (Go.RowKit.intOf i).toNat)
  case atStart => exact ⟨0, _, _, Nat.zero_le _, rfl, HH, HB⟩
  case round =>
    obtain ⟨k, R, G, hk, rfl, HJ, HBJ⟩ := hrel
    obtain ⟨c0, c2⟩ := HJ.out.cells
    have hBs := HBJ.out.size
    by_cases hlt : k < N
    · have hel := HJ.out.row.lt
      have hbl := lt_of_some HJ.out.head
      have ce := HJ.out.row.cell (i := k) (by simpa using hlt) (j := 0) (by omega)
      simp only [Nat.lt_irrefl, if_false] at ce
      have ce' : wr.cell? ⟨w.heap.size, k * 6, none⟩ = some (.pointer none) := ce
      have fe := HJ.out.row.frozen (k * 6)
      clear ce
      go_wp2_with fail
      go_region_held3 (fun w' => w'.cell? ⟨w.heap.size + 1, 2, none⟩ = some (.slice (some ⟨w.heap.size, 0, none⟩) N N)) (first | assumption | go_keep) (first
        | (go_at_call 39; refine (new_ring n _ h2).mono ?_; rintro x w3 ⟨rfl, hr, hb⟩; have hb' : Below wr.heap.size wr w3 := (Below.refl _ wr).drew.trans hb; have g2 : w3.cell? ⟨w.heap.size + 1, 2, none⟩ = some (.slice (some ⟨w.heap.size, 0, none⟩) N N) := (hb'.cell (p := ⟨w.heap.size + 1, 2, none⟩) hbl).trans c2; have ge : w3.cell? ⟨w.heap.size, k * 6, none⟩ = some (.pointer none) := (hb'.cell (p := ⟨w.heap.size, k * 6, none⟩) hel).trans ce'; have gf : w3.frozen? ⟨w.heap.size, k * 6, none⟩ = false := (hb'.frozen (p := ⟨w.heap.size, k * 6, none⟩) hel).trans fe; have HR := hide hr; have HBN := hide hb'; clear hr hb hb'))
      all_goals
        have HST := hide (HJ.out.step hlt hBs HBN.out HR.out ⟨by simp, by simp⟩)
        go_wp2_with fail
        go_roundw
        case rel => exact ⟨k + 1, _, _, by omega, by go_num, HST.out, (HBJ.out.trans (HBN.out.mono hBs)).setCell (Nat.le_refl _) _⟩
        case measure => simp [Go.RowKit.intOf]; omega
    · have hkN : k = N := by omega
      subst hkN
      go_wp2_with fail
      go_ret2
      exact ⟨_, rfl, Port.of (HJ.out.done c s rfl HNN.out hc hs h1 h2), HBJ.out⟩
set_option maxRecDepth 100000 in
set_option maxHeartbeats 1000000 in
theorem used_at {w : World} {S : Nat → Prop} {b eb : Nat} {gv ov : Value} {R G : Nat → Nat} {P : Pt} (h : IsPort w S b eb gv ov R G P) :
    Calls Try.prog 19 #[.pointer (some ⟨b, 0, none⟩)] w fun x w' => x = .returned (.int .i64 (usedN P : Nat)) ∧ Below w.heap.size w w' := by
  obtain ⟨h0, h1, h2, h3, h4⟩ := h.cells
  have hn := h.ok.n
  have hz := h.ok.z1
  have HM := hide (pMade_at b true w h0)
  have H0 := hide h
  have hU : ∀ k, k ≤ P.L.length → ((P.L.take k).map fun x => x.q.length).sum ≤ k * 65536 := fun k => by
    induction k with
    | zero => intro _; simp
    | succ k ih =>
      intro hk
      have := ih (by omega)
      rw [List.take_succ_eq_append_getElem (by omega), List.map_append, List.sum_append]
      have e : P.L[k] = at0 P.L k := by simp [at0, show k < P.L.length by omega]
      have hq := (h.ok.e k).q
      rw [e, List.map_cons, List.map_nil, List.sum_cons, List.sum_nil]
      omega
  have hS : ∀ k, k < P.L.length → ((P.L.take (k + 1)).map fun x => x.q.length).sum = ((P.L.take k).map fun x => x.q.length).sum + (at0 P.L k).q.length := fun k hk => by
    rw [List.take_succ_eq_append_getElem hk, List.map_append, List.sum_append]
    simp [at0, hk]
  have HU := hide hU
  have HSS := hide hS
  clear h hU hS
  go_enter Try.func19, Try.ntmps19
  go_wp2_with fail
  refine HM.out.mono ?_
  rintro x w1 ⟨rfl, rfl⟩
  go_wp2_with fail
  go_loopw [3, 14] (fun u i wr => ∃ (k : Nat), k ≤ P.L.length ∧ i = .int .i64 k ∧ u = .int .i64 (((P.L.take k).map fun x => x.q.length).sum : Nat) ∧ Hid (Below w.heap.size w wr)) (fun _ i _ => P.L.length - (Go.RowKit.intOf i).toNat)
  case atStart => exact ⟨0, Nat.zero_le _, rfl, by simp, Below.refl _ _⟩
  case round =>
    obtain ⟨k, hk, rfl, rfl, HBJ⟩ := hrel
    by_cases hlt : k < P.L.length
    · have hp := H0.out.below HBJ.out
      obtain ⟨c0, c1, c2, c3, c4, c5⟩ := hp.row.at_ hlt
      obtain ⟨ic, oc, hr⟩ := hp.ring k hlt
      obtain ⟨⟨d1, f1⟩, ⟨d2, f2⟩⟩ := hr.at_
      unfold rp at c0
      have HR := hide (fun o => len_ring (R k) (G k) P.sz ic oc _ (wr.alloc o) (hr.keep (Below.heap_alloc _ _ _ (lt_of_some f1)) (Below.heap_alloc _ _ _ (lt_of_some f2))))
      have hq := (H0.out.ok.e k).q
      have hu := HU.out k hk
      have hs := HSS.out k hlt
      obtain ⟨U, hUU⟩ : ∃ U, U = ((P.L.take k).map fun x => x.q.length).sum := ⟨_, rfl⟩
      obtain ⟨q, hqq⟩ : ∃ q, q = (at0 P.L k).q.length := ⟨_, rfl⟩
      obtain ⟨U2, hU2⟩ : ∃ U2, U2 = ((P.L.take (k + 1)).map fun x => x.q.length).sum := ⟨_, rfl⟩
      rw [← hUU] at hu hs ⊢
      rw [← hqq] at hs hq HR
      rw [← hU2] at hs
      have HU2 := hide hU2
      have hUq : (U : Int) + (q : Int) = (U2 : Int) := by omega
      have hu2 : U2 ≤ 8454144 := by omega
      clear hp hr f1 f2 hUU hqq hU2 hs
      go_wp2_with fail
      refine (HR.out _).mono ?_
      rintro x w2 ⟨rfl, k2, rfl⟩
      go_wp2_with fail
      go_roundw
      case rel => exact ⟨k + 1, by omega, by go_num, by rw [← HU2.out], below_drewN (HBJ.out.alloc HBJ.out.size _) _⟩
      case measure => simp [Go.RowKit.intOf]; omega
    · have hkN : k = P.L.length := by omega
      subst hkN
      have hfin : usedN P = ((P.L.take P.L.length).map fun x => x.q.length).sum := by rw [List.take_length]; rfl
      go_wp2_with fail
      go_ret
      refine ⟨?_, HBJ.out⟩
      rw [hfin]
      rfl

end Go.Proofs.Ytjojhnkibgkleaa
