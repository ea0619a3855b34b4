/-
  HeadClean's walk; conditions as each theorem has them.
-/
import Derived.Test.YthbnbnfhbkekpaaGreatDoorV
import Derived.Test.YthbnbnfhbkekpaaGreatDoorCW
import Derived.Test.YthbnbnfhbkekpaaGreatDoorT
set_option linter.unusedSimpArgs false
set_option linter.unusedVariables false
namespace Go.Proofs.YthbnbnfhbkekpaaGreatDoor
open Go.RowKit

/-- The operation 'append' at a step of a drawn region, where its run is known by an equation. -/
theorem step_app_run {P : Program} (w : World) {ops : Array Oper} {o : Oper} {a : Act} {K : Act → World → Prop} {Q : Exit → Act → World → Prop} {E : Prop} (hgd : o.guard = none) (d s : Operand) (t t' : TypeId)
    (ho : o.op = .call { callee := .builtin .append, args := #[d, s], argTypes := #[t, t'] }) (v u : Value) (hd : a.eval d = v) (hs : a.eval s = u) {v' : Value} {w' : World}
    (hr : (Builtin.append_ #[t, t'] o.type #[v, u]).run P w = .ok v' w') (h : K (a.put o.dst v') w') : if Region.wanted o (yielded ops a.tmps) = true then Oper.wp P o a w K Q else E := by
  have hw : Region.wanted o (yielded ops a.tmps) = true := by simp [Region.wanted, hgd]
  rw [if_pos hw]
  unfold Oper.wp execOp
  simp only [ho, resolve, invoke, builtin, Sem.run_bind, Sem.run_pure, Result.andThen_ok, List.map_toArray, List.map_cons, List.map_nil, hd, hs, hr]
  exact h
theorem putQ_ok {m D p : List Nat} {fs : List Fd} (h : (putQ m D p fs).2 = 0) : fs.all okF = true ∧ fs.length ≤ 64 := by
  unfold putQ at h
  split at h
  · simp at h
  · split at h
    · have := put_ok (b := (put _ fs).1) (Prod.ext rfl h)
      exact ⟨this.1, this.2.1⟩
    · simp at h
set_option maxRecDepth 100000 in
set_option maxHeartbeats 8000000 in
theorem clean_walk (a : Option Addr) (n c : Nat) (b : List Nat) (pv : Value) (m : ByteArray) (A : Ad) (h : ByteArray) (p : Int) (t : ByteArray) (xa : Option Addr) (xn xc : Nat) (fs : List Fd) (w : World) (hT : Tabs w ∧ Pow w) (hb : Src w a n c b) (hn : n ≤ 140737488351232) (hq : IsRq w pv m A h p t xa xn xc fs) :
    Calls Tryz.prog 8 #[.slice a n c, pv] w fun e w' => e = .returned (.bool true) ∧ Below w.heap.size w w' := by
  obtain ⟨rfl, ok, hm, hh, hp, ht, src, sht, len⟩ := hq
  obtain ⟨A0, A1, A2, A3⟩ := A
  unfold rqV
  obtain ⟨G0, hG0⟩ : ∃ G, G = w.heap.size := ⟨_, rfl⟩
  obtain ⟨W0, hW0⟩ : ∃ W, W = w.alloc (.cells #[.string m, .int .u8 (A0 : Nat), .int .u8 (A1 : Nat), .int .u8 (A2 : Nat), .int .u8 (A3 : Nat), .string h, .int .i64 p, .string t, .slice xa xn xc] 44) := ⟨_, rfl⟩
  have b0 : Below w.heap.size w W0 := by rw [hW0]; exact (Below.refl _ _).alloc (Nat.le_refl _) _
  have g0 : W0.heap[G0]? = some (.cells #[.string m, .int .u8 (A0 : Nat), .int .u8 (A1 : Nat), .int .u8 (A2 : Nat), .int .u8 (A3 : Nat), .string h, .int .i64 p, .string t, .slice xa xn xc] 44) := by rw [hW0, hG0]; exact alloc_new _ _
  have HW0 : Hid (w.alloc (.cells #[.string m, .int .u8 (A0 : Nat), .int .u8 (A1 : Nat), .int .u8 (A2 : Nat), .int .u8 (A3 : Nat), .string h, .int .i64 p, .string t, .slice xa xn xc] 44) = W0) := hW0.symm
  have HG0 := hide hG0.symm
  have R0 := hide g0
  have HWK := hide (works_at W0 (hT.1.below b0))
  have S0 := hide hb
  have M0 := hide src
  have T0 := hide (hT.1.below b0)
  have P0 := hide (hT.2.below b0)
  have B0 := hide b0
  have HPQ : Hid (∀ W, SrcF W xa xn xc fs → Vars W → Pow W → Calls Tryz.prog 22 #[.agg #[.string m, .int .u8 (A0 : Nat), .int .u8 (A1 : Nat), .int .u8 (A2 : Nat), .int .u8 (A3 : Nat), .string h, .int .i64 p, .string t, .slice xa xn xc]] W (Wrote (putQ (byt m) (det (A0, A1, A2, A3) (byt h) p) (byt t) fs) W)) := fun W h1 h2 h3 =>
    putRequest_at m (A0, A1, A2, A3) h p t xa xn xc fs W ok (by unfold maxLen; omega) hh (by unfold maxLen; omega) h1 (fun f hf => by have := sht f hf; unfold maxLen; omega) h2 h3
  have HLN := hide len
  clear hW0 hG0 g0 b0 hT hb src ok hm hh hp ht sht len
  go_enter Tryz.func8, Tryz.ntmps8
  go_wp2_with (first | (rw [HW0.out, HG0.out]))
  try (rw [HW0.out, HG0.out]; go_wp2_with fail)
  refine HWK.out.mono ?_
  rintro e w1 ⟨rfl, k1⟩
  have B1 := hide (B0.out.trans (k1.mono B0.out.size))
  have T1 := hide (T0.out.below k1)
  have P1 := hide (P0.out.below k1)
  have R1 := hide (keepB k1 R0.out)
  obtain ⟨q0, x0, x1, x2, x3, s, pp, tt, hrow⟩ := request_row b
  have HROW := hide hrow
  have HRQ := hide (request_at a n c b w1 (S0.out.keep (fun h0 i o ei => B1.out.block i (S0.out.lt h0 ei)) B1.out.size) T1.out.v T1.out.e)
  simp only [HROW.out] at HRQ
  have HRO := hide (request_ok b)
  obtain ⟨rf, hrf⟩ : ∃ x, x = (request b).1.2 := ⟨_, rfl⟩
  obtain ⟨rl, hrl⟩ : ∃ x, x = rf.length := ⟨_, rfl⟩
  rw [← hrf] at HRQ HRO
  rw [← hrl] at HRQ HRO
  have HRL := hide hrl
  clear k1 hrow HWK B0 T0 P0 R0 HROW hrf hrl
  go_wp2_with fail
  refine HRQ.out.mono ?_
  rintro e w2 ⟨ad2, cap2, v2, rfl, sf2, _, k2⟩
  obtain ⟨G3, hG3⟩ : ∃ G, G = w2.heap.size := ⟨_, rfl⟩
  obtain ⟨W3, hW3⟩ : ∃ W, W = w2.alloc (.cells #[.string q0, .int .u8 (x0 : Nat), .int .u8 (x1 : Nat), .int .u8 (x2 : Nat), .int .u8 (x3 : Nat), .string s, .int .i64 (pp : Nat), .string tt, .slice ad2 rl cap2] 44) := ⟨_, rfl⟩
  have b3 : Below w2.heap.size w2 W3 := by rw [hW3]; exact (Below.refl _ _).alloc (Nat.le_refl _) _
  have g3 : W3.heap[G3]? = some (.cells #[.string q0, .int .u8 (x0 : Nat), .int .u8 (x1 : Nat), .int .u8 (x2 : Nat), .int .u8 (x3 : Nat), .string s, .int .i64 (pp : Nat), .string tt, .slice ad2 rl cap2] 44) := by rw [hW3, hG3]; exact alloc_new _ _
  have HW3 : Hid (w2.alloc (.cells #[.string q0, .int .u8 (x0 : Nat), .int .u8 (x1 : Nat), .int .u8 (x2 : Nat), .int .u8 (x3 : Nat), .string s, .int .i64 (pp : Nat), .string tt, .slice ad2 rl cap2] 44) = W3) := hW3.symm
  have HG3 := hide hG3.symm
  have k3 := k2.trans (b3.mono k2.size)
  have B3 := hide (B1.out.trans (k3.mono B1.out.size))
  have T3 := hide (T1.out.below k3)
  have P3 := hide (P1.out.below k3)
  have R3 := hide (keepB k3 R1.out)
  have Q3 := hide g3
  have F3 := hide (sf2.below b3)
  have HRY := hide (reply_at a n c b W3 (S0.out.keep (fun h0 i o ei => B3.out.block i (S0.out.lt h0 ei)) B3.out.size) T3.out.v T3.out.e)
  unfold ryC at HRY
  have HYO := hide (reply_ok b)
  obtain ⟨yf, hyf⟩ : ∃ x, x = (reply b).1.2 := ⟨_, rfl⟩
  obtain ⟨yl, hyl⟩ : ∃ x, x = yf.length := ⟨_, rfl⟩
  rw [← hyf] at HRY HYO
  rw [← hyl] at HRY HYO
  have HYL := hide hyl
  generalize (reply b).1.1.1 = y1 at HRY
  generalize strN (reply b).1.1.2 = y2 at HRY
  generalize (reply b).2.1 = y3 at HRY
  generalize (reply b).2.2 = y4 at HRY
  clear k2 k3 b3 g3 hW3 hG3 sf2 HRQ B1 T1 P1 R1 hyf hyl
  go_wp2_with (first | (rw [HW3.out, HG3.out]))
  try (rw [HW3.out, HG3.out]; go_wp2_with fail)
  refine HRY.out.mono ?_
  rintro e w4 ⟨ad4, cap4, v4, rfl, sf4, _, k4⟩
  obtain ⟨G5, hG5⟩ : ∃ G, G = w4.heap.size := ⟨_, rfl⟩
  obtain ⟨W5, hW5⟩ : ∃ W, W = w4.alloc (.cells #[.int .i64 (y1 : Nat), .string y2, .slice ad4 yl cap4] 51) := ⟨_, rfl⟩
  have b5 : Below w4.heap.size w4 W5 := by rw [hW5]; exact (Below.refl _ _).alloc (Nat.le_refl _) _
  have g5 : W5.heap[G5]? = some (.cells #[.int .i64 (y1 : Nat), .string y2, .slice ad4 yl cap4] 51) := by rw [hW5, hG5]; exact alloc_new _ _
  have HW5 : Hid (w4.alloc (.cells #[.int .i64 (y1 : Nat), .string y2, .slice ad4 yl cap4] 51) = W5) := hW5.symm
  have HG5 := hide hG5.symm
  have k5 := k4.trans (b5.mono k4.size)
  have B5 := hide (B3.out.trans (k5.mono B3.out.size))
  have T5 := hide (T3.out.below k5)
  have P5 := hide (P3.out.below k5)
  have R5 := hide (keepB k5 R3.out)
  have q5 := keepB k5 Q3.out
  have Q5 := hide q5
  have Y5 := hide g5
  have F5 := hide (F3.out.below k5)
  have E5 := hide (sf4.below b5)
  have c8 : W5.cell? ⟨G3, 8, none⟩ = some (.slice ad2 rl cap2) := by simp [World.cell?, q5]
  have c2 : W5.cell? ⟨G5, 2, none⟩ = some (.slice ad4 yl cap4) := by simp [World.cell?, g5]
  have HCP := hide (copyF_at ad2 rl cap2 rf W5 F5.out (by have := HRO.out.2; omega))
  clear k4 k5 b5 g5 q5 hW5 hG5 sf4 HRY B3 T3 P3 R3 Q3 F3
  go_wp2_with (first | (rw [HW5.out, HG5.out]))
  try (rw [HW5.out, HG5.out]; go_wp2_with fail)
  have HLR : Hid (rl * 32 ≤ 140737488355328) := by show _ ≤ _; have := HRO.out.2; omega
  have HLY : Hid ((rf.length + yl) * 32 ≤ 140737488355328) := by show _ ≤ _; rw [← HRL.out]; have := HRO.out.2; have := HYO.out.2; omega
  have HOB : Hid (okB (rf ++ yf)) := fun f hf => by
    rcases List.mem_append.1 hf with h | h
    · exact F5.out.byte f h
    · exact E5.out.byte f h
  obtain ⟨LN, hLN⟩ : ∃ L, L = (rf ++ yf).length := ⟨_, rfl⟩
  have HARM : Hid (∀ w6 v6, OwnF w6 W5.heap.size v6 rf → Below W5.heap.size W5 w6 → ∃ xl cl w7, (Builtin.append_ #[42, 42] 42 #[v6, .slice ad4 yl cap4]).run Tryz.prog w6 = .ok (.slice xl LN cl) w7 ∧ OwnF w7 W5.heap.size (.slice xl LN cl) (rf ++ yf) ∧ Below W5.heap.size W5 w7 ∧ w6.cell? ⟨G3, 8, none⟩ = some (.slice ad2 rl cap2) ∧ w6.cell? ⟨G5, 2, none⟩ = some (.slice ad4 yl cap4) ∧ w7.cell? ⟨G3, 8, none⟩ = some (.slice ad2 rl cap2) ∧ w7.cell? ⟨G5, 2, none⟩ = some (.slice ad4 yl cap4)) := fun w6 v6 o6 k6 => by
    obtain ⟨v7, w7, a7, o7, b7⟩ := run_appF o6 (E5.out.below k6) HLY.out k6.size
    have k7 : Below W5.heap.size W5 w7 := k6.trans b7
    obtain ⟨xl, cl, rfl, sl, _⟩ := o7.src HOB.out
    rw [← hLN] at a7 o7
    refine ⟨xl, cl, w7, a7, o7, k7, ?_, ?_, ?_, ?_⟩
    · simp [World.cell?, keepB k6 Q5.out]
    · simp [World.cell?, keepB k6 Y5.out]
    · simp [World.cell?, keepB k7 Q5.out]
    · simp [World.cell?, keepB k7 Y5.out]
  have HLNN := hide hLN
  clear hLN
  have HF5 : Hid (∀ W, W.heap = W5.heap → Calls Tryz.prog 21 #[.slice ad2 rl cap2] W fun e w' => ∃ v, e = .returned v ∧ OwnF w' W.heap.size v rf ∧ Below W.heap.size W w') := fun W hW => copyF_at ad2 rl cap2 rf W (F5.out.keep (fun _ b _ _ => by rw [hW]) (by rw [hW]; omega)) HLR.out
  clear HCP
  go_region_held3 (fun w' => w'.cell? ⟨G3, 8, none⟩ = some (.slice ad2 rl cap2) ∧ w'.cell? ⟨G5, 2, none⟩ = some (.slice ad4 yl cap4)) (go_keep) (first
    | (go_at_call 21; refine (HF5.out _ (by rfl)).mono ?_; rintro e w6 ⟨v6, rfl, o6', k6'⟩; have k6 : Below W5.heap.size W5 w6 := ⟨k6'.os, k6'.tape, k6'.output, k6'.size, k6'.block⟩; obtain ⟨xl, cl, w7, a7, o7, k7, e8, e2, f8, f2⟩ := HARM.out w6 v6 o6' k6; have A7 := hide a7; have O7 := hide o7; have K7 := hide k7; clear a7 o7 k7 k6 k6' o6')
    | (refine step_app_run _ (by rfl) _ _ 42 42 (by rfl) _ _ (by rfl) (by rfl) A7.out ?_))
  obtain ⟨xl', cl', hsl, sl, _⟩ := O7.out.src HOB.out
  simp only [Value.slice.injEq] at hsl
  obtain ⟨rfl, hsl2, rfl⟩ := hsl
  rw [← hsl2] at sl
  clear hsl2
  have SL := hide sl
  have B7 := hide (B5.out.trans (K7.out.mono B5.out.size))
  have T7 := hide (T5.out.below K7.out)
  have P7 := hide (P5.out.below K7.out)
  have R7 := hide (keepB K7.out R5.out)
  have Q7 := hide (keepB K7.out Q5.out)
  have Y7 := hide (keepB K7.out Y5.out)
  have HPC := hide (HPQ.out w7 (M0.out.keep (fun h0 i o ei => B7.out.block i (M0.out.lt h0 ei)) B7.out.size) T7.out.v P7.out)
  have HQO : Hid ((putQ (byt m) (det (A0, A1, A2, A3) (byt h) p) (byt t) fs).2 = 0 → fs.all okF = true ∧ fs.length ≤ 64) := fun h => putQ_ok h
  unfold Wrote at HPC
  generalize (putQ (byt m) (det (A0, A1, A2, A3) (byt h) p) (byt t) fs) = PQ at HPC HQO
  obtain ⟨pb, pc⟩ := PQ
  simp only at HPC HQO
  have HSZ := hide K7.out.size
  have HWS := hide B5.out.size
  have HG3L := hide (lt_of_some Q5.out)
  have HG5L := hide (lt_of_some Y5.out)
  clear sl B5 T5 P5 R5 Q5 Y5 F5 E5 K7 c8 c2 e8 e2 A7 HPQ
  go_wp2_with (first | (refine wpList_load_rowG rfl 44 _ rfl G0 rfl 44 #[.string m, .int .u8 (A0 : Nat), .int .u8 (A1 : Nat), .int .u8 (A2 : Nat), .int .u8 (A3 : Nat), .string h, .int .i64 p, .string t, .slice xa xn xc] (0, 0) _ R7.out Tryz.underlying44 rfl info44 ?_))
  refine HPC.out.mono ?_
  rintro e w8 ⟨pa, pcap, rfl, _, k8⟩
  have B8 := hide (B7.out.trans (k8.mono B7.out.size))
  have R8 := hide (keepB k8 R7.out)
  have Q8 := hide (keepB k8 Q7.out)
  have Y8 := hide (keepB k8 Y7.out)
  have O8 := hide (O7.out.below k8)
  have SL8 := hide (SL.out.below k8)
  have HSZ8 : Hid (W5.heap.size ≤ w8.heap.size) := Nat.le_trans HSZ.out k8.size
  clear k8 B7 R7 Q7 Y7 O7 SL HSZ HPC T7 P7 HLY HLR f8 f2
  have HL2 : Hid ((rf ++ yf).all okF = true) := by show _ = _; rw [List.all_append, HRO.out.1, HYO.out.1]; rfl
  by_cases hpc : pc = 0
  · subst hpc
    obtain ⟨fok, f64⟩ := HQO.out rfl
    have HL3 : Hid (((rf ++ yf) ++ fs).all okF = true) := by show _ = _; rw [List.all_append, HL2.out, fok]; rfl
    have m8 : SrcF w8 xa xn xc fs := M0.out.keep (fun h0 i o ei => B8.out.block i (M0.out.lt h0 ei)) B8.out.size
    have hxn : xn ≤ 64 := by rw [← m8.hlen]; exact f64
    obtain ⟨v9, w9, a9, o9, b9⟩ := run_appF O8.out m8 (by rw [List.length_append, ← HRL.out, ← HYL.out]; have := HRO.out.2; have := HYO.out.2; omega) HSZ8.out
    have hob3 : okB ((rf ++ yf) ++ fs) := fun f hf => by
      rcases List.mem_append.1 hf with h | h
      · exact HOB.out f h
      · exact m8.byte f h
    obtain ⟨xl9, cl9, rfl, sl9, _⟩ := o9.src hob3
    obtain ⟨L9, hL9⟩ : ∃ L, L = ((rf ++ yf) ++ fs).length := ⟨_, rfl⟩
    rw [← hL9] at a9 sl9
    have A9 := hide a9
    have SL9 := hide sl9
    have k9 : w8.heap.size ≤ w9.heap.size := b9.size
    have B9 : Hid (Below w.heap.size w w9) := B8.out.trans (b9.mono HWS.out)
    have r8 := R8.out
    have d8 : w8.cell? ⟨G0, 8, none⟩ = some (.slice xa xn xc) := by simp [World.cell?, R8.out]
    have Q9 : Hid (w9.heap[G3]? = w8.heap[G3]?) := b9.block G3 HG3L.out
    have Y9 : Hid (w9.heap[G5]? = w8.heap[G5]?) := b9.block G5 HG5L.out
    have QQ := hide (Q9.out.trans Q8.out)
    have YY := hide (Y9.out.trans Y8.out)
    clear fok f64 m8 hxn a9 o9 b9 hob3 sl9 hL9 k9 r8 Q9 Y9
    go_wp2_with (first | (refine wpList_app_run _ rfl _ _ 42 42 rfl _ _ rfl rfl A9.out ?_))
    have HOF : Hid (∀ f ∈ ((rf ++ yf) ++ fs), okF f = true) := fun f hf => List.all_eq_true.1 HL3.out f hf
    have hmx := SL9.out.hmax
    have hcx := SL9.out.hcap
    unfold maxLen at hmx
    go_loopw [14] (fun i wr => ∃ k : Nat, k ≤ L9 ∧ i = .int .i64 k ∧ Hid (Below w9.heap.size w9 wr)) (fun i _ => L9 - (intOf i).toNat)
    case atStart => exact ⟨0, by omega, rfl, Below.refl _ _⟩
    case round =>
      obtain ⟨k, hk, rfl, HI⟩ := hrel
      by_cases hkn : k < L9
      · have hdk : decide ((k : Int) < (L9 : Int)) = true := decide_eq_true (by omega)
        have s1 := SL9.out.below HI.out
        obtain ⟨bb, o, hbo, c0, c1⟩ := s1.at_ hkn
        subst hbo
        rw [Nat.mul_comm 2 k] at c0 c1
        have hkl : k < (((rf ++ yf) ++ fs)).length := by rw [SL9.out.hlen]; exact hkn
        have hmem : (((rf ++ yf) ++ fs)).getD k ([], []) ∈ ((rf ++ yf) ++ fs) := getD_mem hkl
        have hby := SL9.out.byte _ hmem
        have hof := HOF.out _ hmem
        obtain ⟨f, hf⟩ : ∃ f, f = (((rf ++ yf) ++ fs)).getD k ([], []) := ⟨_, rfl⟩
        rw [← hf] at c0 c1 hby hof
        obtain ⟨p1, p2⟩ := f
        simp only at c0 c1 hby
        obtain ⟨hne, hcl⟩ := okF_clean hof
        unfold okF at hof
        rw [Bool.and_eq_true] at hof
        have hl1 := (tok_parts hof.1).2.1
        have hl2 := (value_parts hof.2).1
        simp only at hne hcl hl1 hl2
        have hpb := byt_strN p1 hby.1
        have hqb := byt_strN p2 hby.2
        have hps := strN_size p1
        have hqs := strN_size p2
        obtain ⟨P, hP⟩ : ∃ x, x = strN p1 := ⟨_, rfl⟩
        obtain ⟨R, hR⟩ : ∃ x, x = strN p2 := ⟨_, rfl⟩
        rw [← hP] at c0 hpb hps
        rw [← hR] at c1 hqb hqs
        obtain ⟨S, hS⟩ : ∃ S, S = P ++ R := ⟨_, rfl⟩
        have hSb : byt S = p1 ++ p2 := by rw [hS, byt_app, hpb, hqb]
        have HCC : Hid (∀ j, j < S.size → (byt S).getD j 0 ≠ 13 ∧ (byt S).getD j 0 ≠ 10 ∧ (byt S).getD j 0 ≠ 0) := fun j hj => by
          have : (byt S).getD j 0 ∈ p1 ++ p2 := by
            rw [← hSb]
            have hj' : j < (byt S).length := by rw [byt_length]; exact hj
            rw [List.getD, List.getElem?_eq_getElem hj']
            exact List.getElem_mem hj'
          exact hcl _ this
        have HIX : Hid (∀ j, j < S.size → ∀ w, (Instr.index 9 (.string S) (.int .i64 (j : Nat))).run Tryz.prog w = .ok (.int .u8 ((byt S).getD j 0 : Nat)) w) := fun j hj w => run_ixstr S j hj w
        have hSz : S.size ≤ 5000 := by rw [← byt_length, hSb, List.length_append]; omega
        have n1 : ¬ (9223372036854775807 < P.size + R.size) := by omega
        obtain ⟨e1, e2⟩ := toList_ne P (by rw [hpb]; exact hne)
        have HSS : Hid (P ++ R = S) := hS.symm
        clear hkl hmem hby hof hf hne hcl hl1 hl2 hpb hqb hps hqs hP hR hS hSb s1
        go_wp2_with fail
        go_region
        rw [HSS.out]
        go_wp2_with fail
        obtain ⟨WI, hWI⟩ : ∃ W, W = wr.drew := ⟨_, rfl⟩
        have BI : Hid (Below w9.heap.size w9 WI) := by rw [hWI]; exact HI.out.drew
        have d0 : WI.cell? ⟨bb, o + k * 2, none⟩ = some (.string P) := by rw [hWI]; exact c0
        rw [← hWI]
        clear hWI c0 c1 HI
        go_loop [16] (fun i => ∃ j : Nat, j ≤ S.size ∧ i = .int .i64 j) (fun i => S.size - (intOf i).toNat)
        case atStart => exact ⟨0, by omega, rfl⟩
        case round =>
          obtain ⟨j, hj, rfl⟩ := hrel
          by_cases hjn : j < S.size
          · have hdj : decide ((j : Int) < (S.size : Int)) = true := decide_eq_true (by omega)
            have hix := HIX.out j hjn
            obtain ⟨h13, h10, h00⟩ := HCC.out j hjn
            obtain ⟨ch, hch⟩ : ∃ x, x = (byt S).getD j 0 := ⟨_, rfl⟩
            rw [← hch] at hix h13 h10 h00
            have q13 : ((ch : Int) == 13) = false := by simp; omega
            have q10 : ((ch : Int) == 10) = false := by simp; omega
            have q00 : ((ch : Int) == 0) = false := by simp; omega
            have q00' : (ch == 0) = false := by simp; omega
            clear hch h13 h10 h00
            go_wp2_with fail
            go_round
            case rel => exact ⟨j + 1, by omega, by go_num⟩
            case measure => simp [intOf]; omega
          · have hdj : decide ((j : Int) < (S.size : Int)) = false := decide_eq_false (by omega)
            go_wp2_with fail
            go_roundw
            case rel => exact ⟨k + 1, by omega, by go_num, BI.out⟩
            case measure => simp [intOf]; omega
      · have hdk : decide ((k : Int) < (L9 : Int)) = false := decide_eq_false (by omega)
        have q3 := keepB HI.out QQ.out
        have y5 := keepB HI.out YY.out
        have z8 : wr.cell? ⟨G3, 8, none⟩ = some (.slice ad2 rl cap2) := by simp [World.cell?, q3]
        have z2 : wr.cell? ⟨G5, 2, none⟩ = some (.slice ad4 yl cap4) := by simp [World.cell?, y5]
        have t1 : decide ((rl : Int) ≤ 64) = true := decide_eq_true (by have := HRO.out.2; omega)
        have t2 : decide ((yl : Int) ≤ 64) = true := decide_eq_true (by have := HYO.out.2; omega)
        have t3 : decide (rl ≤ 64) = true := decide_eq_true HRO.out.2
        have t4 : decide (yl ≤ 64) = true := decide_eq_true HYO.out.2
        have BF := hide (B9.out.trans (HI.out.mono B9.out.size))
        clear q3 y5
        go_wp2_with fail
        go_ret
        exact ⟨rfl, BF.out⟩
  · have qpc : ((pc : Int) == 0) = false := by simp; omega
    go_wp2_with fail
    have HOF : Hid (∀ f ∈ (rf ++ yf), okF f = true) := fun f hf => List.all_eq_true.1 HL2.out f hf
    have hmx := SL8.out.hmax
    have hcx := SL8.out.hcap
    unfold maxLen at hmx
    go_loopw [14] (fun i wr => ∃ k : Nat, k ≤ LN ∧ i = .int .i64 k ∧ Hid (Below w8.heap.size w8 wr)) (fun i _ => LN - (intOf i).toNat)
    case atStart => exact ⟨0, by omega, rfl, Below.refl _ _⟩
    case round =>
      obtain ⟨k, hk, rfl, HI⟩ := hrel
      by_cases hkn : k < LN
      · have hdk : decide ((k : Int) < (LN : Int)) = true := decide_eq_true (by omega)
        have s1 := SL8.out.below HI.out
        obtain ⟨bb, o, hbo, c0, c1⟩ := s1.at_ hkn
        subst hbo
        rw [Nat.mul_comm 2 k] at c0 c1
        have hkl : k < ((rf ++ yf)).length := by rw [SL8.out.hlen]; exact hkn
        have hmem : ((rf ++ yf)).getD k ([], []) ∈ (rf ++ yf) := getD_mem hkl
        have hby := SL8.out.byte _ hmem
        have hof := HOF.out _ hmem
        obtain ⟨f, hf⟩ : ∃ f, f = ((rf ++ yf)).getD k ([], []) := ⟨_, rfl⟩
        rw [← hf] at c0 c1 hby hof
        obtain ⟨p1, p2⟩ := f
        simp only at c0 c1 hby
        obtain ⟨hne, hcl⟩ := okF_clean hof
        unfold okF at hof
        rw [Bool.and_eq_true] at hof
        have hl1 := (tok_parts hof.1).2.1
        have hl2 := (value_parts hof.2).1
        simp only at hne hcl hl1 hl2
        have hpb := byt_strN p1 hby.1
        have hqb := byt_strN p2 hby.2
        have hps := strN_size p1
        have hqs := strN_size p2
        obtain ⟨P, hP⟩ : ∃ x, x = strN p1 := ⟨_, rfl⟩
        obtain ⟨R, hR⟩ : ∃ x, x = strN p2 := ⟨_, rfl⟩
        rw [← hP] at c0 hpb hps
        rw [← hR] at c1 hqb hqs
        obtain ⟨S, hS⟩ : ∃ S, S = P ++ R := ⟨_, rfl⟩
        have hSb : byt S = p1 ++ p2 := by rw [hS, byt_app, hpb, hqb]
        have HCC : Hid (∀ j, j < S.size → (byt S).getD j 0 ≠ 13 ∧ (byt S).getD j 0 ≠ 10 ∧ (byt S).getD j 0 ≠ 0) := fun j hj => by
          have : (byt S).getD j 0 ∈ p1 ++ p2 := by
            rw [← hSb]
            have hj' : j < (byt S).length := by rw [byt_length]; exact hj
            rw [List.getD, List.getElem?_eq_getElem hj']
            exact List.getElem_mem hj'
          exact hcl _ this
        have HIX : Hid (∀ j, j < S.size → ∀ w, (Instr.index 9 (.string S) (.int .i64 (j : Nat))).run Tryz.prog w = .ok (.int .u8 ((byt S).getD j 0 : Nat)) w) := fun j hj w => run_ixstr S j hj w
        have hSz : S.size ≤ 5000 := by rw [← byt_length, hSb, List.length_append]; omega
        have n1 : ¬ (9223372036854775807 < P.size + R.size) := by omega
        obtain ⟨e1, e2⟩ := toList_ne P (by rw [hpb]; exact hne)
        have HSS : Hid (P ++ R = S) := hS.symm
        clear hkl hmem hby hof hf hne hcl hl1 hl2 hpb hqb hps hqs hP hR hS hSb s1
        go_wp2_with fail
        go_region
        rw [HSS.out]
        go_wp2_with fail
        obtain ⟨WI, hWI⟩ : ∃ W, W = wr.drew := ⟨_, rfl⟩
        have BI : Hid (Below w8.heap.size w8 WI) := by rw [hWI]; exact HI.out.drew
        have d0 : WI.cell? ⟨bb, o + k * 2, none⟩ = some (.string P) := by rw [hWI]; exact c0
        rw [← hWI]
        clear hWI c0 c1 HI
        go_loop [16] (fun i => ∃ j : Nat, j ≤ S.size ∧ i = .int .i64 j) (fun i => S.size - (intOf i).toNat)
        case atStart => exact ⟨0, by omega, rfl⟩
        case round =>
          obtain ⟨j, hj, rfl⟩ := hrel
          by_cases hjn : j < S.size
          · have hdj : decide ((j : Int) < (S.size : Int)) = true := decide_eq_true (by omega)
            have hix := HIX.out j hjn
            obtain ⟨h13, h10, h00⟩ := HCC.out j hjn
            obtain ⟨ch, hch⟩ : ∃ x, x = (byt S).getD j 0 := ⟨_, rfl⟩
            rw [← hch] at hix h13 h10 h00
            have q13 : ((ch : Int) == 13) = false := by simp; omega
            have q10 : ((ch : Int) == 10) = false := by simp; omega
            have q00 : ((ch : Int) == 0) = false := by simp; omega
            have q00' : (ch == 0) = false := by simp; omega
            clear hch h13 h10 h00
            go_wp2_with fail
            go_round
            case rel => exact ⟨j + 1, by omega, by go_num⟩
            case measure => simp [intOf]; omega
          · have hdj : decide ((j : Int) < (S.size : Int)) = false := decide_eq_false (by omega)
            go_wp2_with fail
            go_roundw
            case rel => exact ⟨k + 1, by omega, by go_num, BI.out⟩
            case measure => simp [intOf]; omega
      · have hdk : decide ((k : Int) < (LN : Int)) = false := decide_eq_false (by omega)
        have q3 := keepB HI.out Q8.out
        have y5 := keepB HI.out Y8.out
        have z8 : wr.cell? ⟨G3, 8, none⟩ = some (.slice ad2 rl cap2) := by simp [World.cell?, q3]
        have z2 : wr.cell? ⟨G5, 2, none⟩ = some (.slice ad4 yl cap4) := by simp [World.cell?, y5]
        have t1 : decide ((rl : Int) ≤ 64) = true := decide_eq_true (by have := HRO.out.2; omega)
        have t2 : decide ((yl : Int) ≤ 64) = true := decide_eq_true (by have := HYO.out.2; omega)
        have t3 : decide (rl ≤ 64) = true := decide_eq_true HRO.out.2
        have t4 : decide (yl ≤ 64) = true := decide_eq_true HYO.out.2
        have BF := hide (B8.out.trans (HI.out.mono B8.out.size))
        clear q3 y5
        go_wp2_with fail
        go_ret
        exact ⟨rfl, BF.out⟩
end Go.Proofs.YthbnbnfhbkekpaaGreatDoor
