/-
  Texts and bytes side by side, and works; conditions as each theorem has them.
-/
import Derived.Test.YtcihkdmndpdmoaaH
set_option linter.unusedSimpArgs false
set_option linter.unusedVariables false
namespace Go.Proofs.Ytcihkdmndpdmoaa
open Go.RowKit
/-- A slice of texts wherever it lies. -/
structure SrcT (w : World) (a : Option Addr) (len cap : Nat) (l : List ByteArray) : Prop where
  hlen : l.length = len
  hcap : len ≤ cap
  hmax : cap ≤ maxLen
  lies : 0 < len → ∃ b o, a = some ⟨b, o, none⟩ ∧ b < w.heap.size ∧ ∀ j u, (rowT l)[j]? = some u → w.cell? ⟨b, o + j, none⟩ = some u
theorem SrcT.lt {w : World} {a : Option Addr} {len cap : Nat} {l : List ByteArray} (h : SrcT w a len cap l) (h0 : 0 < len) {b o : Nat} (e : a = some ⟨b, o, none⟩) : b < w.heap.size := by
  obtain ⟨b', o', e', hb, hc⟩ := h.lies h0
  rw [e] at e'
  simp only [Option.some.injEq, Addr.mk.injEq, and_true] at e'
  omega
theorem SrcT.keep {w w' : World} {a : Option Addr} {len cap : Nat} {l : List ByteArray} (h : SrcT w a len cap l) (hk : 0 < len → ∀ b o, a = some ⟨b, o, none⟩ → w'.heap[b]? = w.heap[b]?) (hs : w.heap.size ≤ w'.heap.size) : SrcT w' a len cap l := by
  refine ⟨h.hlen, h.hcap, h.hmax, fun h0 => ?_⟩
  obtain ⟨b, o, e, hb, hc⟩ := h.lies h0
  exact ⟨b, o, e, by omega, fun j u hu => (World.cell?_of_block (hk h0 b o e)).trans (hc j u hu)⟩
theorem SrcT.below {w w' : World} {a : Option Addr} {len cap : Nat} {l : List ByteArray} (h : SrcT w a len cap l) (k : Below w.heap.size w w') : SrcT w' a len cap l :=
  h.keep (fun h0 b o e => k.block b (h.lt h0 e)) k.size
theorem SrcT.at_ {w : World} {a : Option Addr} {len cap : Nat} {l : List ByteArray} (h : SrcT w a len cap l) {i : Nat} (hi : i < len) : ∃ b o, a = some ⟨b, o, none⟩ ∧ w.cell? ⟨b, o + i, none⟩ = some (.string (l.getD i noN)) := by
  obtain ⟨b, o, e, hb, hc⟩ := h.lies (by omega)
  have hl := h.hlen
  exact ⟨b, o, e, hc i _ (by simp [rowT, List.getElem?_eq_getElem (show i < l.length by omega)])⟩
theorem SrcT.of_block {w : World} {b n : Nat} {l : List ByteArray} (h : w.heap[b]? = some (.cells (rowT l).toArray 9)) (hn : l.length = n) (hm : n ≤ maxLen) : SrcT w (some ⟨b, 0, none⟩) n n l :=
  ⟨hn, Nat.le_refl _, hm, fun _ => ⟨b, 0, rfl, lt_of_some h, fun j u hu => by rw [Nat.zero_add]; simp only [World.cell?, h]; simpa using hu⟩⟩
set_option maxRecDepth 100000 in
set_option maxHeartbeats 2000000 in
theorem same_texts (w : World) (a b : Option Addr) (n c m d : Nat) (l : List ByteArray) (h1 : SrcT w a n c l) (h2 : SrcT w b m d l) : Calls Try.prog 24 #[.slice a n c, .slice b m d] w fun e w' => e = .returned (.bool true) ∧ Below w.heap.size w w' := by
  obtain rfl : m = n := by rw [← h2.hlen, ← h1.hlen]
  have H1 := hide h1
  have H2 := hide h2
  have hc1 := h1.hcap
  have hm1 := h1.hmax
  have hc2 := h2.hcap
  have hm2 := h2.hmax
  unfold maxLen at hm1 hm2
  clear h1 h2
  go_enter Try.func24, Try.ntmps24
  go_wp2_with fail
  go_loopw [5] (fun i wr => ∃ k : Nat, k ≤ m ∧ i = .int .i64 k ∧ Hid (Below w.heap.size w wr)) (fun i _ => m - (intOf i).toNat)
  case atStart => exact ⟨0, by omega, rfl, Below.refl _ _⟩
  case round =>
    obtain ⟨k, hk, rfl, HJ⟩ := hrel
    by_cases hkm : k < m
    · have hd : decide ((k : Int) < (m : Int)) = true := decide_eq_true (by omega)
      have s1 := H1.out.below HJ.out
      have s2 := H2.out.below HJ.out
      obtain ⟨xb, xo, rfl, e1⟩ := s1.at_ hkm
      obtain ⟨yb, yo, rfl, f1⟩ := s2.at_ hkm
      have hss : ((l.getD k noN).toList == (l.getD k noN).toList) = true := by simp
      generalize l.getD k noN = T at e1 f1 hss
      clear s1 s2
      go_wp2_with fail
      go_region
      all_goals go_wp2_with fail
      go_roundw
      case rel => exact ⟨k + 1, by omega, by go_num, HJ.out.drew⟩
      case measure => simp [intOf]; omega
    · have hd : decide ((k : Int) < (m : Int)) = false := decide_eq_false (by omega)
      go_wp2_with fail
      go_ret
      exact ⟨rfl, HJ.out⟩
theorem wrap_small (n : Int) (m : Nat) (hm : 0 < m) (hm1 : m ≤ 4611686018427387904) : ∃ k : Nat, k < m ∧ wrap64 ((IntKind.u64.wrap n).tmod m) = (k : Int) := by
  have hu : 0 ≤ IntKind.u64.wrap n := by
    have : IntKind.u64.wrap n = n % 18446744073709551616 := by simp [IntKind.wrap, IntKind.signed, IntKind.bits]
    rw [this]
    exact Int.emod_nonneg _ (by omega)
  generalize IntKind.u64.wrap n = u at hu
  rw [Int.tmod_eq_emod_of_nonneg hu]
  have h1 := Int.emod_nonneg u (show (m : Int) ≠ 0 by omega)
  have h2 := Int.emod_lt_of_pos u (show (0 : Int) < m by omega)
  refine ⟨(u % m).toNat, by omega, ?_⟩
  generalize u % (m : Int) = x at h1 h2
  rw [Int.toNat_of_nonneg h1]
  unfold wrap64
  omega
set_option maxHeartbeats 400000 in
theorem among (n : Int) (m : Nat) (hm : 0 < m) (hm1 : m ≤ 4611686018427387904) (w : World) : Calls Try.prog 11 #[.int .i64 n, .int .i64 m] w fun e w' => ∃ k : Nat, k < m ∧ e = .returned (.int .i64 k) ∧ w = w' := by
  go_enter Try.func11, Try.ntmps11
  go_wp2
  go_ret
  obtain ⟨k, hk, e⟩ := wrap_small n m hm hm1
  exact ⟨k, hk, by rw [← e]; rfl, rfl⟩
set_option maxRecDepth 100000 in
set_option maxHeartbeats 1000000 in
theorem bytes_at (a : Option Addr) (n c : Nat) (l : List Nat) (w : World) (h : Src w a n c l) (hn : n ≤ 140737488355328) : Calls Try.prog 12 #[.slice a n c] w fun e w' => ∃ v, e = .returned v ∧ Own w' w.heap.size 5 v (nums .u8 l) ∧ Below w.heap.size w w' := by
  obtain ⟨W1, hW1⟩ : ∃ W1, W1 = w.alloc (.cells #[] 5) := ⟨_, rfl⟩
  have b1 : Below w.heap.size w W1 := by rw [hW1]; exact (Below.refl _ _).alloc (Nat.le_refl _) _
  have o1 : Own W1 w.heap.size 5 (.slice (some ⟨w.heap.size, 0, none⟩) 0 0) (nums .u8 []) := by rw [hW1]; exact own_new5 w
  obtain ⟨v', W2, hap, o2, b2, _⟩ := run_app o1 (h.below b1) (by simpa using hn) b1.size
  rw [List.nil_append] at o2
  have hAl : w.alloc (.cells #[] 5) = W1 := hW1.symm
  have HAP := hide hap
  have HO := hide o2
  have HB : Hid (Below w.heap.size w W2) := b1.trans b2
  clear h hW1 b1 o1 hap o2 b2
  go_enter Try.func12, Try.ntmps12
  go_wp2_with (refine wpList_app_run _ rfl _ _ 30 30 rfl _ _ rfl rfl HAP.out ?_)
  go_ret
  exact ⟨v', rfl, HO.out, HB.out⟩
set_option maxHeartbeats 400000 in
theorem same_bytes (w : World) (a b : Option Addr) (n c m d : Nat) (l : List Nat) (h1 : Src w a n c l) (h2 : Src w b m d l) : Calls Try.prog 15 #[.slice a n c, .slice b m d] w fun e w' => e = .returned (.bool true) ∧ w = w' := by
  have r1 := run_str_src h1
  have r2 := run_str_src h2
  clear h1 h2
  go_enter Try.func15, Try.ntmps15
  go_wp2
  go_ret
  simp
def aN : ByteArray := ⟨#[97]⟩
def bN : ByteArray := ⟨#[98]⟩
def cN : ByteArray := ⟨#[99]⟩
def oneN : ByteArray := ⟨#[49]⟩
def twoN : ByteArray := ⟨#[50]⟩
def thrN : ByteArray := ⟨#[51]⟩
def sA : Sl := ⟨aN, oneN, 0, 9, false⟩
def sB : Sl := ⟨bN, twoN, 0, 9, false⟩
def sC : Sl := ⟨cN, thrN, 2, 9, false⟩
theorem w_p1 : put 9 [zeroS, zeroS] 0 0 aN oneN 9 = ([sA, zeroS], 0) := by rfl
theorem w_p2 : put 9 [sA, zeroS] 0 0 bN twoN 9 = ([sA, sB], 0) := by rfl
theorem w_g1 : getL [sA, sB] 1 aN = [{ sA with asked := true }, sB] ∧ getC [sA, sB] 1 aN = 0 ∧ getN [sA, sB] 1 aN = 1 ∧ getB [sA, sB] 1 aN = oneN := by exact ⟨rfl, rfl, rfl, rfl⟩
theorem w_p3 : put 9 [{ sA with asked := true }, sB] 0 2 cN thrN 9 = ([sA, sC], 0) := by rfl
theorem w_g2 : getL [sA, sC] 9 aN = [sA, sC] ∧ getC [sA, sC] 9 aN = 5 ∧ getN [sA, sC] 9 aN = 0 ∧ getB [sA, sC] 9 aN = noN := by exact ⟨rfl, rfl, rfl, rfl⟩
theorem src_const (w : World) (x : Nat) (hx : x < 256) : Src (w.alloc (.cells #[.int .u8 (x : Nat)] 5 (1, 2))) (some ⟨w.heap.size, 0, none⟩) 1 1 [x] :=
  ⟨rfl, Nat.le_refl _, by decide, (fun e => by cases e), fun _ => ⟨w.heap.size, 0, rfl, by simp, fun i hi => by
    obtain rfl : i = 0 := by omega
    simp only [World.cell?, alloc_new, Nat.add_zero]
    rfl⟩, by intro y hy; simp at hy; omega⟩
theorem put_const {w : World} {r g K h : Nat} {L : List Sl} (t : IsTab w r g K L h) (now : Int) (key : ByteArray) (x : Nat) (hx : x < 256) (age : Int) :
    Calls Try.prog 13 #[.pointer (some ⟨r, 0, none⟩), .int .i64 now, .string key, .slice (some ⟨w.heap.size, 0, none⟩) 1 1, .int .i64 age] (w.alloc (.cells #[.int .u8 (x : Nat)] 5 (1, 2))) fun e w' => e = .returned (.int .i64 (code K L now key 1 age)) ∧ IsTab w' r g K (put K L h now key (strN [x]) age).1 (put K L h now key (strN [x]) age).2 ∧ Kept r g w w' := by
  have hl := t.lt
  refine (put_at r g K h L now key _ 1 1 [x] age _ (t.alloc _) (src_const w x hx) ⟨fun _ b o e => ?_, fun _ b o e => ?_⟩).mono ?_
  · simp only [Option.some.injEq, Addr.mk.injEq, and_true] at e; omega
  · simp only [Option.some.injEq, Addr.mk.injEq, and_true] at e; omega
  · rintro e w' ⟨rfl, t', k'⟩
    exact ⟨rfl, t', ((Kept.refl r g w).alloc _).trans k'⟩
theorem Kept.belowT {w w' w0 : World} {r g : Nat} (k : Kept r g w w') (b : Below w0.heap.size w0 w) (hr : w0.heap.size ≤ r) (hg : w0.heap.size ≤ g) : Below w0.heap.size w0 w' := b.trans (k.below hr hg b.size)
set_option maxRecDepth 100000 in
set_option maxHeartbeats 4000000 in
theorem works_at (w : World) : Calls Try.prog 27 #[] w fun e w' => e = .returned (.bool true) ∧ Below w.heap.size w w' := by
  have hcv := fun (w : World) (C : Array Value) (n c : Nat) => Lib.run_convert_bytes_const (P := Try.prog) w 30 5 C n c Try.underlying30 Try.underlying5
  go_enter Try.func27, Try.ntmps27
  go_wp2_with fail
  refine (new_good 2 9 w (by omega) (by omega) (by omega)).mono ?_
  rintro e w1 ⟨rfl, h1, k1⟩
  have h1' : IsTab w1 (w.heap.size + 1) w.heap.size 9 [zeroS, zeroS] 0 := h1
  have H1 := hide h1'
  have K1 := hide k1
  clear h1 h1' k1
  have HP := hide (put_const H1.out 0 aN 49 (by omega) 9)
  rw [show strN [49] = oneN from rfl, w_p1, show code 9 [zeroS, zeroS] 0 aN 1 9 = 0 from rfl] at HP
  simp only at HP
  go_wp2_with fail
  refine HP.out.mono ?_
  rintro e w2 ⟨rfl, h2, k2⟩
  have H2 := hide h2
  have K2 := hide (k2.belowT K1.out (by omega) (by omega))
  clear h2 k2 HP H1 K1
  have HP := hide (put_const H2.out 0 bN 50 (by omega) 9)
  rw [show strN [50] = twoN from rfl, w_p2, show code 9 [sA, zeroS] 0 bN 1 9 = 0 from rfl] at HP
  simp only at HP
  go_wp2_with fail
  refine HP.out.mono ?_
  rintro e w3 ⟨rfl, h3, k3⟩
  have H3 := hide h3
  have K3 := hide (k3.belowT K2.out (by omega) (by omega))
  clear h3 k3 HP H2 K2
  have HG := hide (get_at _ _ _ _ _ 1 aN _ H3.out)
  rw [w_g1.1, w_g1.2.1, w_g1.2.2.1, w_g1.2.2.2, show byt oneN = [49] from rfl] at HG
  go_wp2_with fail
  refine HG.out.mono ?_
  rintro e w4 ⟨v, rfl, ⟨ya, yc, rfl, ys, yo⟩, h4, k4⟩
  have H4 := hide h4
  have hw3 := H3.out.lt
  have YS := hide ys
  have YO : Hid (∀ b o, ya = some ⟨b, o, none⟩ → w3.heap.size ≤ b) := fun b o e => (yo b o e).1
  have L3 : Hid (w.heap.size < w3.heap.size ∧ w.heap.size + 1 < w3.heap.size) := ⟨H3.out.lt.2, H3.out.lt.1⟩
  have K4 := hide (k4.belowT K3.out (by omega) (by omega))
  clear h4 k4 HG H3 K3 ys yo hw3
  rw [show ([49] : List Nat).length = 1 from rfl]
  have HP := hide (put_const H4.out 2 cN 51 (by omega) 9)
  rw [show strN [51] = thrN from rfl, w_p3, show code 9 [{ sA with asked := true }, sB] 2 cN 1 9 = 0 from rfl] at HP
  simp only at HP
  go_wp2_with fail
  refine HP.out.mono ?_
  rintro e w5 ⟨rfl, h5, k5⟩
  have H5 := hide h5
  have Y5 := hide (YS.out.keep (w' := w5) (fun h0 b o e => k5.block b (YS.out.lt h0 e) (by have := YO.out b o e; have := L3.out; omega) (by have := YO.out b o e; have := L3.out; omega)) k5.size)
  have K5 := hide (k5.belowT K4.out (by omega) (by omega))
  clear h5 k5 HP H4 K4 YS
  have HG := hide (get_at _ _ _ _ _ 9 aN _ H5.out)
  rw [w_g2.1, w_g2.2.1, w_g2.2.2.1, w_g2.2.2.2, show byt noN = [] from rfl] at HG
  go_wp2_with fail
  refine HG.out.mono ?_
  rintro e w6 ⟨v, rfl, hout, h6, k6⟩
  have H6 := hide h6
  have Y6 := hide (Y5.out.keep (w' := w6) (fun h0 b o e => k6.block b (Y5.out.lt h0 e) (by have := YO.out b o e; have := L3.out; omega) (by have := YO.out b o e; have := L3.out; omega)) k6.size)
  have K6 := hide (k6.belowT K5.out (by omega) (by omega))
  clear h6 k6 HG H5 K5 Y5 hout
  have hy := run_str_src Y6.out
  rw [show ([49] : List Nat).length = 1 from rfl, show strN [49] = ⟨#[49]⟩ from rfl] at hy
  have HK := hide (keys_at _ _ _ _ _ _ H6.out)
  rw [show ([sA, sC] : List Sl).length = 2 from rfl, show nms [sA, sC] = [aN, cN] from rfl] at HK
  go_wp2_with fail
  refine HK.out.mono ?_
  rintro e w7 ⟨rfl, t7, k7⟩
  have T7 : Hid (SrcT w7 (some ⟨w6.heap.size, 0, none⟩) 2 2 [aN, cN]) := SrcT.of_block t7 rfl (by decide)
  have H7 := hide (H6.out.below k7)
  have K7 := hide (K6.out.trans (k7.mono K6.out.size))
  clear t7 k7 K6 H6 HK hy Y6
  have HT : Hid (Calls Try.prog 24 #[.slice (some ⟨w6.heap.size, 0, none⟩) 2 2, .slice (some ⟨w7.heap.size, 0, none⟩) 2 2] (w7.alloc (.cells #[.string aN, .string cN] 9)) fun e w' => e = .returned (.bool true) ∧ Below (w7.alloc (.cells #[.string aN, .string cN] 9)).heap.size (w7.alloc (.cells #[.string aN, .string cN] 9)) w') :=
    same_texts _ _ _ 2 2 2 2 [aN, cN] (T7.out.below ((Below.refl _ _).alloc (Nat.le_refl _) _)) (SrcT.of_block (alloc_new _ _) rfl (by decide))
  go_wp2_with fail
  refine HT.out.mono ?_
  rintro e w8 ⟨rfl, k8⟩
  have H8 := hide ((H7.out.alloc _).below k8)
  have K8 := hide ((K7.out.alloc K7.out.size _).trans (k8.mono (by have := K7.out.size; simp; omega)))
  clear k8 HT T7 H7 K7
  go_wp2_with fail
  refine (hand_at _ _ _ _ _ _ H8.out).mono ?_
  rintro e w9 ⟨rfl, rfl⟩
  go_wp2_with fail
  go_ret
  exact ⟨rfl, K8.out⟩
end Go.Proofs.Ytcihkdmndpdmoaa
