/-
  FiveComes' walk; conditions as each theorem has them.
-/
import Derived.Test.YtefgjmijbedbkaaDoorWK
import Derived.Test.YtefgjmijbedbkaaDoorPE
set_option linter.unusedSimpArgs false
set_option linter.unusedVariables false
namespace Go.Proofs.YtefgjmijbedbkaaDoor
open Go.RowKit

/-- 'b[:k]' of a slice of bytes. -/
theorem run_cut_h (w : World) (a : Option Addr) (n c : Nat) (b : List Nat) (h : Src w a n c b) (k : Nat) (hk : k ≤ n) : ∃ x : Option Addr,
    (∀ w, (Instr.sliceAt 22 (.slice a n c) none (some (.int .i64 k)) none).run Tryd.prog w = .ok (.slice x k c) w) ∧
    (∀ w, (Instr.slice 22 (.slice a n c) none (some (.int .i64 k)) none).run Tryd.prog w = .ok (.slice x k c) w) ∧ Src w x k c (b.take k) := by
  have hc := h.hcap
  have hl := h.hlen
  have key : ∀ w, (Instr.slice 22 (.slice a n c) none (some (.int .i64 k)) none).run Tryd.prog w = .ok (sliced a 0 k c 1) w := fun w => by
    rw [run_slice_h w 22 _ n c und22 .i64 k (by omega) (by omega), size22]
    simp [Result.andThen]
  refine ⟨if c = 0 then a else a.map (·.add (0 * 1)), fun w => ?_, fun w => ?_, ⟨by rw [List.length_take]; omega, by omega, h.hmax, fun e => ?_, fun h0 => ?_, fun x hx => h.byte x (List.mem_of_mem_take hx)⟩⟩
  · rw [run_sliceAt_slice w 22 _ _ _ _ und22, key]; rfl
  · rw [key]; rfl
  · cases a with
    | none => exact h.nil rfl
    | some x => split at e <;> simp at e
  · obtain ⟨x, o, rfl, hx, hcell⟩ := h.lies (by omega)
    rw [if_neg (by omega)]
    refine ⟨x, o, by rw [Option.map_some, add_none, Nat.zero_mul, Nat.add_zero], hx, fun i hi => ?_⟩
    rw [List.getD, List.getElem?_take, if_pos hi]
    exact hcell i (by omega)
theorem wrap_small (n : Int) (m : Nat) (hm : 0 < m) (hm1 : m ≤ 4611686018427387904) : ∃ k : Nat, k < m ∧ wrap64 ((IntKind.u64.wrap n).tmod m) = (k : Int) := by
  have hu : 0 ≤ IntKind.u64.wrap n := by
    have : IntKind.u64.wrap n = n % 18446744073709551616 := by simp [IntKind.wrap, IntKind.signed, IntKind.bits]
    rw [this]
    exact Int.emod_nonneg _ (by omega)
  generalize IntKind.u64.wrap n = u at hu
  rw [Int.tmod_eq_emod_of_nonneg hu]
  have h1 := Int.emod_nonneg u (show (m : Int) ≠ 0 by omega)
  have h2 := Int.emod_lt_of_pos u (show (0 : Int) < m by omega)
  refine ⟨(u % m).toNat, by omega, ?_⟩
  generalize u % (m : Int) = x at h1 h2
  rw [Int.toNat_of_nonneg h1]
  unfold wrap64
  omega
set_option maxHeartbeats 400000 in
theorem Among_at (n : Int) (m : Nat) (hm : 0 < m) (hm1 : m ≤ 4611686018427387904) (w : World) : Calls Tryd.prog 35 #[.int .i64 n, .int .i64 m] w fun e w' => ∃ k : Nat, k < m ∧ e = .returned (.int .i64 k) ∧ w = w' := by
  go_enter Tryd.func35, Tryd.ntmps35
  go_wp2
  go_ret
  obtain ⟨k, hk, e⟩ := wrap_small n m hm hm1
  exact ⟨k, hk, by rw [← e]; rfl, rfl⟩
set_option maxRecDepth 100000 in
set_option maxHeartbeats 4000000 in
theorem comes_walk (a : Option Addr) (n c : Nat) (b : List Nat) (cut : Int) (a2 : Option Addr) (n2 c2 : Nat) (more : List Nat) (w : World) (hV : Vars w) (h : Src w a n c b) (hn : n ≤ 1048576) (h2 : Src w a2 n2 c2 more) (hn2 : n2 ≤ 1048576) : Calls Tryd.prog 6 #[.slice a n c, .int .i64 cut, .slice a2 n2 c2] w fun e w' => e = .returned (.bool true) ∧ Below w.heap.size w w' := by
  have HW := hide (works_at w hV)
  have S0 := hide h
  have T0 := hide h2
  have V0 := hide hV
  have hcap := h.hcap
  have hmx := h.hmax
  unfold maxLen at hmx
  have HL := hide h.hlen
  clear h h2 hV
  go_enter Tryd.func6, Tryd.ntmps6
  go_wp2_with fail
  refine HW.out.mono ?_
  rintro e w1 ⟨rfl, hb1⟩
  have B1 := hide hb1
  have HR := hide (request_at a n c b w1 (S0.out.below hb1) (V0.out.below hb1))
  have V1 := hide (V0.out.below hb1)
  unfold reqV at HR
  clear hb1
  go_wp2_with fail
  refine HR.out.mono ?_
  rintro e w2 ⟨u, rfl, hf, hb2⟩
  have HF := hide hf
  have B2 := hide (B1.out.trans (hb2.mono B1.out.size))
  have V2 := hide (V1.out.below hb2)
  clear hb2 HR HW
  by_cases hok : (req b).2.2.2 = .ok
  · obtain rfl := hf.nil hok
    obtain ⟨q, A, nm, pt, K, hE, g1, g2, g3, g4, g5, g6, g7, g8, g9⟩ := req_good S0.out.byte hok
    have HTK : Hid (∀ k, k < K → (req (b.take k)).2.2.2 = .one k 6) := fun k hk => by
      have := req_take hok (k := k) (by rw [hE]; exact hk)
      rw [this, sh, List.length_take]
      congr 1
      omega
    have HAP : Hid (req (b ++ more) = req b) := req_app more (by rw [hok]; exact fun e => sh_ne b e.symm)
    rw [hE]
    obtain ⟨A0, A1, A2, A3⟩ := A
    simp only [deV]
    have hKn : K ≤ n := by rw [← HL.out]; exact g6
    have q1 : decide ((K : Int) < 1) = false := decide_eq_false (by omega)
    have q1' : decide (K < 1) = false := decide_eq_false (by omega)
    have q2 : decide ((n : Int) < K) = false := decide_eq_false (by omega)
    have q2' : decide (n < K) = false := decide_eq_false (by omega)
    have q3 : decide (263 < (K : Int)) = false := decide_eq_false (by omega)
    have q3' : decide (263 < K) = false := decide_eq_false (by omega)
    have HE := hide hE
    clear hf hok hE g1 g2 g3 g4 g5 g6 g9
    obtain ⟨W3, hW3⟩ : ∃ W3, W3 = w2.alloc (.cells #[.int .u8 (A0 : Nat), .int .u8 (A1 : Nat), .int .u8 (A2 : Nat), .int .u8 (A3 : Nat), .string (strN nm), .int .i64 (pt : Nat)] 47) := ⟨_, rfl⟩
    have b3 : Below w2.heap.size w2 W3 := by rw [hW3]; exact (Below.refl _ _).alloc (Nat.le_refl _) _
    have r3 : W3.heap[w2.heap.size]? = some (.cells #[.int .u8 (A0 : Nat), .int .u8 (A1 : Nat), .int .u8 (A2 : Nat), .int .u8 (A3 : Nat), .string (strN nm), .int .i64 (pt : Nat)] 47) := by rw [hW3]; exact alloc_new _ _
    have R3 := hide r3
    have B3 := hide (B2.out.trans (b3.mono B2.out.size))
    have V3 := hide (V2.out.below b3)
    have HW3 := hide hW3.symm
    clear b3 r3 hW3
    go_wp2_with fail
    rw [HW3.out]
    refine (Among_at cut K (by omega) (by omega) _).mono ?_
    rintro e w4 ⟨k, hkK, rfl, rfl⟩
    have b4 := (Below.refl w.heap.size w).trans B3.out
    have SS : Src W3 a n c b := S0.out.keep (fun h0 i o ei => B3.out.block i (S0.out.lt h0 ei)) B3.out.size
    obtain ⟨xk, s1, s2, s3⟩ := run_cut_h W3 a n c b SS k (by omega)
    have HK := hide (request_at xk k c (b.take k) W3 s3 V3.out)
    obtain ⟨t1, t2, t3⟩ := req_bad (b := b.take k) (by rw [HTK.out k hkK]; simp)
    unfold reqV at HK
    rw [t1, t2, t3, HTK.out k hkK] at HK
    simp only [deV, noD, noA] at HK
    clear b4 SS s3 t1 t2 t3
    go_wp2_with fail
    refine HK.out.mono ?_
    rintro e w5 ⟨u5, rfl, hf5, hb5⟩
    have F5 := hide hf5
    have B5 := hide (B3.out.trans (hb5.mono B3.out.size))
    have R5 := hide (keepB hb5 R3.out)
    have V5 := hide (V3.out.below hb5)
    clear hf5 hb5
    obtain ⟨W6, hW6⟩ : ∃ W6, W6 = w5.alloc (.cells #[.int .u8 0, .int .u8 0, .int .u8 0, .int .u8 0, .string (strN []), .int .i64 0] 47) := ⟨_, rfl⟩
    have b6 : Below w5.heap.size w5 W6 := by rw [hW6]; exact (Below.refl _ _).alloc (Nat.le_refl _) _
    have B6 := hide (B5.out.trans (b6.mono B5.out.size))
    have R6 := hide (keepB b6 R5.out)
    have F6 := hide (F5.out.below b6)
    have V6 := hide (V5.out.below b6)
    have HBY := hide (bytes_at a n c b W6 (S0.out.keep (fun h0 i o ei => B6.out.block i (S0.out.lt h0 ei)) B6.out.size) (by omega))
    have HW6 := hide hW6.symm
    clear b6 hW6
    go_wp2_with fail
    rw [HW6.out]
    refine HBY.out.mono ?_
    rintro e w7 ⟨v7, rfl, o7, b7⟩
    have B7 := B6.out.trans (b7.mono B6.out.size)
    obtain ⟨v8, w8, a8, o8, b8⟩ := run_app o7 (T0.out.keep (fun h0 i o ei => B7.block i (T0.out.lt h0 ei)) B7.size) (by rw [HL.out]; omega) b7.size
    obtain ⟨x8, c8, rfl, s8, _⟩ := own_src o8 (by intro x hx; rcases List.mem_append.1 hx with h | h; exact S0.out.byte x h; exact T0.out.byte x h)
    have b68 : Below W6.heap.size W6 w8 := b7.trans b8
    have HR8 := hide (request_at x8 _ c8 (b ++ more) w8 s8 (V6.out.below b68))
    unfold reqV at HR8
    rw [HAP.out, HE.out] at HR8
    simp only [deV] at HR8
    have A8 := hide a8
    have B8 := hide (B6.out.trans (b68.mono B6.out.size))
    have R8 := hide (keepB b68 R6.out)
    have F8 := hide (F6.out.below b68)
    clear o7 b7 B7 a8 o8 b8 s8 b68
    generalize (b ++ more).length = FL at A8 HR8
    go_wp2_with (first | (refine wpList_app_run _ rfl _ _ 22 22 rfl _ _ rfl rfl A8.out ?_))
    refine HR8.out.mono ?_
    rintro e w9 ⟨u9, rfl, hf9, hb9⟩
    obtain rfl : u9 = .nilIface := hf9
    obtain ⟨W10, hW10⟩ : ∃ W10, W10 = w9.alloc (.cells #[.int .u8 (A0 : Nat), .int .u8 (A1 : Nat), .int .u8 (A2 : Nat), .int .u8 (A3 : Nat), .string (strN nm), .int .i64 (pt : Nat)] 47) := ⟨_, rfl⟩
    have b10 : Below w9.heap.size w9 W10 := by rw [hW10]; exact (Below.refl _ _).alloc (Nat.le_refl _) _
    have r10 : W10.heap[w9.heap.size]? = some (.cells #[.int .u8 (A0 : Nat), .int .u8 (A1 : Nat), .int .u8 (A2 : Nat), .int .u8 (A3 : Nat), .string (strN nm), .int .i64 (pt : Nat)] 47) := by rw [hW10]; exact alloc_new _ _
    have b810 : Below w8.heap.size w8 W10 := hb9.trans (b10.mono hb9.size)
    have B10 := hide (B8.out.trans (b810.mono B8.out.size))
    have R10 := hide (keepB b810 R8.out)
    have Y10 := hide r10
    have F10 := hide (F8.out.below b810)
    have HW10 := hide hW10.symm
    clear hb9 hW10 b10 r10 b810
    go_wp2_with fail
    rw [HW10.out]
    refine (fail5_at k 6 _).mono ?_
    rintro e w11 ⟨rfl, hb11⟩
    have B11 := hide (B10.out.trans (hb11.mono B10.out.size))
    have R11 := hide (keepB hb11 R10.out)
    have Y11 := hide (keepB hb11 Y10.out)
    have HI := hide (is_at (.one k 6) u5 w11 (F10.out.below hb11))
    rw [badF_badG] at HI ⊢
    clear hb11
    go_wp2_with fail
    refine HI.out.mono ?_
    rintro e w12 ⟨rfl, hb12⟩
    have B12 := hide (B11.out.trans (hb12.mono B11.out.size))
    have rr := keepB hb12 R11.out
    have k0 : w12.cell? ⟨w2.heap.size, 0, none⟩ = some (.int .u8 (A0 : Nat)) := by simp [World.cell?, rr]
    have k1 : w12.cell? ⟨w2.heap.size, 1, none⟩ = some (.int .u8 (A1 : Nat)) := by simp [World.cell?, rr]
    have k2 : w12.cell? ⟨w2.heap.size, 2, none⟩ = some (.int .u8 (A2 : Nat)) := by simp [World.cell?, rr]
    have k3 : w12.cell? ⟨w2.heap.size, 3, none⟩ = some (.int .u8 (A3 : Nat)) := by simp [World.cell?, rr]
    have k4 : w12.cell? ⟨w2.heap.size, 4, none⟩ = some (.string (strN nm)) := by simp [World.cell?, rr]
    have k5 : w12.cell? ⟨w2.heap.size, 5, none⟩ = some (.int .i64 (pt : Nat)) := by simp [World.cell?, rr]
    have yy := keepB hb12 Y11.out
    have y0 : w12.cell? ⟨w9.heap.size, 0, none⟩ = some (.int .u8 (A0 : Nat)) := by simp [World.cell?, yy]
    have y1 : w12.cell? ⟨w9.heap.size, 1, none⟩ = some (.int .u8 (A1 : Nat)) := by simp [World.cell?, yy]
    have y2 : w12.cell? ⟨w9.heap.size, 2, none⟩ = some (.int .u8 (A2 : Nat)) := by simp [World.cell?, yy]
    have y3 : w12.cell? ⟨w9.heap.size, 3, none⟩ = some (.int .u8 (A3 : Nat)) := by simp [World.cell?, yy]
    have y4 : w12.cell? ⟨w9.heap.size, 4, none⟩ = some (.string (strN nm)) := by simp [World.cell?, yy]
    have y5 : w12.cell? ⟨w9.heap.size, 5, none⟩ = some (.int .i64 (pt : Nat)) := by simp [World.cell?, yy]
    clear hb12 rr yy
    go_wp2_with fail
    go_ret
    exact ⟨by simp, B12.out⟩
  · have HOK := hide hok
    obtain ⟨t1, t2, t3⟩ := req_bad hok
    rw [t1, t2, t3]
    simp only [deV, noD, noA]
    obtain ⟨x1, hx1⟩ := hf.ptr hok
    obtain ⟨W3, hW3⟩ : ∃ W3, W3 = w2.alloc (.cells #[.int .u8 0, .int .u8 0, .int .u8 0, .int .u8 0, .string (strN []), .int .i64 0] 47) := ⟨_, rfl⟩
    have b3 : Below w2.heap.size w2 W3 := by rw [hW3]; exact (Below.refl _ _).alloc (Nat.le_refl _) _
    have r3 : W3.heap[w2.heap.size]? = some (.cells #[.int .u8 0, .int .u8 0, .int .u8 0, .int .u8 0, .string (strN []), .int .i64 0] 47) := by rw [hW3]; exact alloc_new _ _
    have R3 := hide r3
    have B3 := hide (B2.out.trans (b3.mono B2.out.size))
    have V3 := hide (V2.out.below b3)
    have F3 := hide (HF.out.below b3)
    have HW3 := hide hW3.symm
    subst hx1
    clear b3 r3 hW3 hf hok t1 t2 t3
    go_wp2_with fail
    rw [HW3.out]
    refine (fail5_at n 6 _).mono ?_
    rintro e w4 ⟨rfl, hb4⟩
    have B4 := hide (B3.out.trans (hb4.mono B3.out.size))
    have R4 := hide (keepB hb4 R3.out)
    have F4 := hide (F3.out.below hb4)
    have V4 := hide (V3.out.below hb4)
    clear hb4
    by_cases hs : (req b).2.2.2 = sh b
    · have hsn : sh b = .one n 6 := by unfold sh; rw [HL.out]
      have f4 := F4.out
      rw [hs, hsn] at f4
      have HI := hide (is_at (.one n 6) _ w4 f4)
      have h263 := req_short hs
      rw [HL.out] at h263
      have g1 : decide ((n : Int) < 263) = true := decide_eq_true (by omega)
      have g1' : decide (n < 263) = true := decide_eq_true h263
      rw [badF_badG] at HI ⊢
      clear hs hsn f4 h263
      go_wp2_with fail
      refine HI.out.mono ?_
      rintro e w5 ⟨rfl, hb5⟩
      have B5 := hide (B4.out.trans (hb5.mono B4.out.size))
      clear hb5
      go_wp2_with fail
      go_ret
      exact ⟨by simp, B5.out⟩
    · have HI := hide (is_not (req b).2.2.2 n 6 _ w4 F4.out HOK.out (fun e => hs (by rw [e]; unfold sh; rw [HL.out])))
      have HAP : Hid (req (b ++ more) = req b) := req_app more hs
      obtain ⟨t1, t2, t3⟩ := req_bad HOK.out
      have HE : Hid (req b = (0, noD, 0, (req b).2.2.2)) := Prod.ext t1 (Prod.ext t2 (Prod.ext t3 rfl))
      rw [badF_badG] at HI ⊢
      clear hs t1 t2 t3
      go_wp2_with fail
      refine HI.out.mono ?_
      rintro e w6 ⟨rfl, hb6⟩
      have B6 := hide (B4.out.trans (hb6.mono B4.out.size))
      have R6 := hide (keepB hb6 R4.out)
      have F6 := hide (F4.out.below hb6)
      have V6 := hide (V4.out.below hb6)
      have HBY := hide (bytes_at a n c b w6 (S0.out.keep (fun h0 i o ei => B6.out.block i (S0.out.lt h0 ei)) B6.out.size) (by omega))
      clear hb6
      go_wp2_with fail
      refine HBY.out.mono ?_
      rintro e w7 ⟨v7, rfl, o7, b7⟩
      have B7 := B6.out.trans (b7.mono B6.out.size)
      obtain ⟨v8, w8, a8, o8, b8⟩ := run_app o7 (T0.out.keep (fun h0 i o ei => B7.block i (T0.out.lt h0 ei)) B7.size) (by rw [HL.out]; omega) b7.size
      obtain ⟨x8, c8, rfl, s8, _⟩ := own_src o8 (by intro x hx; rcases List.mem_append.1 hx with h | h; exact S0.out.byte x h; exact T0.out.byte x h)
      have b68 : Below w6.heap.size w6 w8 := b7.trans b8
      have hr8 := request_at x8 _ c8 (b ++ more) w8 s8 (V6.out.below b68)
      unfold reqV at hr8
      obtain ⟨er, her⟩ : ∃ er, er = (req b).2.2.2 := ⟨_, rfl⟩
      have he2 := HE.out
      rw [← her] at he2
      rw [HAP.out, he2] at hr8
      simp only [deV, noD, noA] at hr8
      have HR8 := hide hr8
      have A8 := hide a8
      have B8 := hide (B6.out.trans (b68.mono B6.out.size))
      have R8 := hide (keepB b68 R6.out)
      have F8 := hide (F6.out.below b68)
      rw [← her] at F8
      clear o7 b7 B7 a8 o8 b8 s8 b68 hr8 he2 her
      generalize (b ++ more).length = FL at A8 HR8
      go_wp2_with (first | (refine wpList_app_run _ rfl _ _ 22 22 rfl _ _ rfl rfl A8.out ?_))
      refine HR8.out.mono ?_
      rintro e w9 ⟨u9, rfl, hf9, hb9⟩
      obtain ⟨W10, hW10⟩ : ∃ W10, W10 = w9.alloc (.cells #[.int .u8 0, .int .u8 0, .int .u8 0, .int .u8 0, .string (strN []), .int .i64 0] 47) := ⟨_, rfl⟩
      have b10 : Below w9.heap.size w9 W10 := by rw [hW10]; exact (Below.refl _ _).alloc (Nat.le_refl _) _
      have b810 : Below w8.heap.size w8 W10 := hb9.trans (b10.mono hb9.size)
      have B10 := hide (B8.out.trans (b810.mono B8.out.size))
      have rr := keepB hb9 R8.out
      have HLK := hide (like_at er u9 (.iface 99 (.pointer (some ⟨x1, 0, none⟩))) W10 (hf9.below b10) (F8.out.below b810))
      have k0 : w9.cell? ⟨w2.heap.size, 0, none⟩ = some (.int .u8 0) := by simp [World.cell?, rr]
      have k1 : w9.cell? ⟨w2.heap.size, 1, none⟩ = some (.int .u8 0) := by simp [World.cell?, rr]
      have k2 : w9.cell? ⟨w2.heap.size, 2, none⟩ = some (.int .u8 0) := by simp [World.cell?, rr]
      have k3 : w9.cell? ⟨w2.heap.size, 3, none⟩ = some (.int .u8 0) := by simp [World.cell?, rr]
      have k4 : w9.cell? ⟨w2.heap.size, 4, none⟩ = some (.string (strN [])) := by simp [World.cell?, rr]
      have k5 : w9.cell? ⟨w2.heap.size, 5, none⟩ = some (.int .i64 0) := by simp [World.cell?, rr]
      have qe : (strN []).toList = [] := by rw [Lib.toList_data]; rfl
      have hz9 : w2.heap.size < w9.heap.size := lt_of_some rr
      have hne9 : w2.heap.size ≠ w9.heap.size := by omega
      have HW10 := hide hW10.symm
      clear hb9 hf9 hW10 b10 b810 rr
      go_wp2_with fail
      rw [HW10.out]
      refine HLK.out.mono ?_
      rintro e w11 ⟨rfl, hb11⟩
      have B11 := hide (B10.out.trans (hb11.mono B10.out.size))
      clear hb11
      go_wp2_with fail
      go_ret
      exact ⟨by first | rfl | simp, B11.out⟩
end Go.Proofs.YtefgjmijbedbkaaDoor
