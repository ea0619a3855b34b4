/-
  Texts side by side, and works; conditions as each theorem has them.
-/
import Derived.Test.YtmolcipbopaniaaI
import Derived.Test.YtmolcipbopaniaaK
set_option linter.unusedSimpArgs false
set_option linter.unusedVariables false
namespace Go.Proofs.Ytmolcipbopaniaa
open Go.RowKit
/-- A slice of texts wherever it lies. -/
structure SrcT (w : World) (a : Option Addr) (len cap : Nat) (l : List ByteArray) : Prop where
  hlen : l.length = len
  hcap : len ≤ cap
  hmax : cap ≤ maxLen
  lies : 0 < len → ∃ b o, a = some ⟨b, o, none⟩ ∧ b < w.heap.size ∧ ∀ j u, (rowT l)[j]? = some u → w.cell? ⟨b, o + j, none⟩ = some u
theorem SrcT.lt {w : World} {a : Option Addr} {len cap : Nat} {l : List ByteArray} (h : SrcT w a len cap l) (h0 : 0 < len) {b o : Nat} (e : a = some ⟨b, o, none⟩) : b < w.heap.size := by
  obtain ⟨b', o', e', hb, hc⟩ := h.lies h0
  rw [e] at e'
  simp only [Option.some.injEq, Addr.mk.injEq, and_true] at e'
  omega
theorem SrcT.keep {w w' : World} {a : Option Addr} {len cap : Nat} {l : List ByteArray} (h : SrcT w a len cap l) (hk : 0 < len → ∀ b o, a = some ⟨b, o, none⟩ → w'.heap[b]? = w.heap[b]?) (hs : w.heap.size ≤ w'.heap.size) : SrcT w' a len cap l := by
  refine ⟨h.hlen, h.hcap, h.hmax, fun h0 => ?_⟩
  obtain ⟨b, o, e, hb, hc⟩ := h.lies h0
  exact ⟨b, o, e, by omega, fun j u hu => (World.cell?_of_block (hk h0 b o e)).trans (hc j u hu)⟩
theorem SrcT.below {w w' : World} {a : Option Addr} {len cap : Nat} {l : List ByteArray} (h : SrcT w a len cap l) (k : Below w.heap.size w w') : SrcT w' a len cap l :=
  h.keep (fun h0 b o e => k.block b (h.lt h0 e)) k.size
theorem SrcT.at_ {w : World} {a : Option Addr} {len cap : Nat} {l : List ByteArray} (h : SrcT w a len cap l) {i : Nat} (hi : i < len) : ∃ b o, a = some ⟨b, o, none⟩ ∧ w.cell? ⟨b, o + i, none⟩ = some (.string (l.getD i noN)) := by
  obtain ⟨b, o, e, hb, hc⟩ := h.lies (by omega)
  have hl := h.hlen
  exact ⟨b, o, e, hc i _ (by simp [rowT, List.getElem?_eq_getElem (show i < l.length by omega)])⟩
theorem SrcT.of_block {w : World} {b n : Nat} {l : List ByteArray} (h : w.heap[b]? = some (.cells (rowT l).toArray 9)) (hn : l.length = n) (hm : n ≤ maxLen) : SrcT w (some ⟨b, 0, none⟩) n n l :=
  ⟨hn, Nat.le_refl _, hm, fun _ => ⟨b, 0, rfl, lt_of_some h, fun j u hu => by rw [Nat.zero_add]; simp only [World.cell?, h]; simpa using hu⟩⟩
set_option maxRecDepth 100000 in
set_option maxHeartbeats 2000000 in
theorem same_texts (w : World) (a b : Option Addr) (n c m d : Nat) (l : List ByteArray) (h1 : SrcT w a n c l) (h2 : SrcT w b m d l) : Calls Try.prog 20 #[.slice a n c, .slice b m d] w fun e w' => e = .returned (.bool true) ∧ Below w.heap.size w w' := by
  obtain rfl : m = n := by rw [← h2.hlen, ← h1.hlen]
  have H1 := hide h1
  have H2 := hide h2
  have hc1 := h1.hcap
  have hm1 := h1.hmax
  have hc2 := h2.hcap
  have hm2 := h2.hmax
  unfold maxLen at hm1 hm2
  clear h1 h2
  go_enter Try.func20, Try.ntmps20
  go_wp2_with fail
  go_loopw [5] (fun i wr => ∃ k : Nat, k ≤ m ∧ i = .int .i64 k ∧ Hid (Below w.heap.size w wr)) (fun i _ => m - (intOf i).toNat)
  case atStart => exact ⟨0, by omega, rfl, Below.refl _ _⟩
  case round =>
    obtain ⟨k, hk, rfl, HJ⟩ := hrel
    by_cases hkm : k < m
    · have hd : decide ((k : Int) < (m : Int)) = true := decide_eq_true (by omega)
      have s1 := H1.out.below HJ.out
      have s2 := H2.out.below HJ.out
      obtain ⟨xb, xo, rfl, e1⟩ := s1.at_ hkm
      obtain ⟨yb, yo, rfl, f1⟩ := s2.at_ hkm
      have hss : ((l.getD k noN).toList == (l.getD k noN).toList) = true := by simp
      generalize l.getD k noN = T at e1 f1 hss
      clear s1 s2
      go_wp2_with fail
      go_region
      all_goals go_wp2_with fail
      go_roundw
      case rel => exact ⟨k + 1, by omega, by go_num, HJ.out.drew⟩
      case measure => simp [intOf]; omega
    · have hd : decide ((k : Int) < (m : Int)) = false := decide_eq_false (by omega)
      go_wp2_with fail
      go_ret
      exact ⟨rfl, HJ.out⟩
def oneA : List Ad := [(10, 0, 0, 1)]
theorem oneA_ok : okA oneA := by intro a ha; simp [oneA] at ha; subst ha; exact ⟨by decide, by decide, by decide, by decide⟩
theorem one_at (w : World) : Calls Try.prog 15 #[] w fun e w' => e = .returned (.slice (some ⟨w.heap.size, 0, none⟩) 1 1) ∧ SrcA w' (some ⟨w.heap.size, 0, none⟩) 1 1 oneA ∧ Below w.heap.size w w' := by
  go_enter Try.func15, Try.ntmps15
  go_wp2_with fail
  go_ret
  refine ⟨rfl, ⟨rfl, Nat.le_refl _, by decide, (fun e => by cases e), fun _ => ⟨_, 0, rfl, by simp, fun j u hu => ?_⟩, oneA_ok⟩, (Below.refl _ _).alloc (Nat.le_refl _) _⟩
  rw [Nat.zero_add]
  simp only [World.cell?, alloc_new]
  rw [← hu]
  simp [oneA, adCs, adC]
def aN : ByteArray := ⟨#[97]⟩
def bN : ByteArray := ⟨#[98]⟩
theorem w_p1 : put [zeroS] 5 aN oneA 10 = [⟨aN, 15, oneA⟩] := by rfl
theorem w_c1 : code [zeroS] 5 aN 1 10 = 0 := by decide
theorem w_g1 : got [⟨aN, 15, oneA⟩] 14 aN = some ⟨aN, 15, oneA⟩ := by rfl
theorem w_g2 : got [⟨aN, 15, oneA⟩] 15 aN = none := by rfl
theorem w_p2 : put [⟨aN, 15, oneA⟩] 6 bN [] 9 = [⟨bN, 15, []⟩] := by rfl
theorem w_c2 : code [⟨aN, 15, oneA⟩] 6 bN 0 9 = 0 := by rfl
theorem wrap_small (n : Int) (m : Nat) (hm : 0 < m) (hm1 : m ≤ 4611686018427387904) : ∃ k : Nat, k < m ∧ wrap64 ((IntKind.u64.wrap n).tmod m) = (k : Int) := by
  have hu : 0 ≤ IntKind.u64.wrap n := by
    have : IntKind.u64.wrap n = n % 18446744073709551616 := by simp [IntKind.wrap, IntKind.signed, IntKind.bits]
    rw [this]
    exact Int.emod_nonneg _ (by omega)
  generalize IntKind.u64.wrap n = u at hu
  rw [Int.tmod_eq_emod_of_nonneg hu]
  have h1 := Int.emod_nonneg u (show (m : Int) ≠ 0 by omega)
  have h2 := Int.emod_lt_of_pos u (show (0 : Int) < m by omega)
  refine ⟨(u % m).toNat, by omega, ?_⟩
  generalize u % (m : Int) = x at h1 h2
  rw [Int.toNat_of_nonneg h1]
  unfold wrap64
  omega

set_option maxHeartbeats 400000 in
theorem among (n : Int) (m : Nat) (hm : 0 < m) (hm1 : m ≤ 4611686018427387904) (w : World) : Calls Try.prog 10 #[.int .i64 n, .int .i64 m] w fun e w' => ∃ k : Nat, k < m ∧ e = .returned (.int .i64 k) ∧ w = w' := by
  go_enter Try.func10, Try.ntmps10
  go_wp2
  go_ret
  obtain ⟨k, hk, e⟩ := wrap_small n m hm hm1
  exact ⟨k, hk, by rw [← e]; rfl, rfl⟩

set_option maxRecDepth 100000 in
set_option maxHeartbeats 4000000 in
theorem works_at (w : World) : Calls Try.prog 23 #[] w fun e w' => e = .returned (.bool true) ∧ Below w.heap.size w w' := by
  go_enter Try.func23, Try.ntmps23
  go_wp2_with fail
  refine (new_good 1 w (by omega)).mono ?_
  rintro e w1 ⟨rfl, h1, k1⟩
  have h1' : IsTab w1 (w.heap.size + 1) w.heap.size [zeroS] := h1
  have H1 := hide h1'
  have K1 := hide k1
  clear h1 h1' k1
  go_wp2_with fail
  refine (one_at w1).mono ?_
  rintro e w2 ⟨rfl, s2, k2⟩
  have K2 := hide (K1.out.trans (k2.mono K1.out.size))
  have H2 := hide (H1.out.belowS k2)
  have HP := hide (put_at (w.heap.size + 1) w.heap.size [zeroS] 5 aN _ 1 1 oneA 10 w2 H2.out s2)
  rw [w_p1, w_c1] at HP
  clear s2 k2 H1 K1
  go_wp2_with fail
  refine HP.out.mono ?_
  rintro e w3 ⟨rfl, h3, k3⟩
  have K3 := hide (K2.out.trans (k3.below (Nat.le_refl _) (Nat.le_refl _) K2.out.size))
  have H3 := hide h3
  clear h3 k3 HP H2 K2
  have HG := hide (get_at (w.heap.size + 1) w.heap.size [⟨aN, 15, oneA⟩] 14 aN w3 H3.out)
  rw [show getT [⟨aN, 15, oneA⟩] 14 aN = 1 from rfl, show getC [⟨aN, 15, oneA⟩] 14 aN = 0 from rfl, show getA [⟨aN, 15, oneA⟩] 14 aN = oneA from rfl] at HG
  go_wp2_with fail
  refine HG.out.mono ?_
  rintro e w4 ⟨v, rfl, ho, k4⟩
  obtain ⟨a, cap, rfl, hsrc, hout⟩ := ho.src oneA_ok
  have K4 := hide (K3.out.trans (k4.mono K3.out.size))
  have H4 := hide (H3.out.belowS k4)
  have S4 := hide hsrc
  have O4 := hide hout
  have L43 : Hid (w.heap.size < w3.heap.size) := H3.out.lt.2
  clear ho hsrc k4 H3 HG K3 hout
  have HG := hide (get_at (w.heap.size + 1) w.heap.size [⟨aN, 15, oneA⟩] 15 aN w4 H4.out)
  rw [show getT [⟨aN, 15, oneA⟩] 15 aN = 0 from rfl, show getC [⟨aN, 15, oneA⟩] 15 aN = 5 from rfl, show getA [⟨aN, 15, oneA⟩] 15 aN = [] from rfl] at HG
  obtain ⟨nn, hnn⟩ : ∃ nn, nn = oneA.length := ⟨_, rfl⟩
  rw [← hnn] at S4 ⊢
  have HNN := hide hnn
  clear hnn
  go_wp2_with fail
  refine HG.out.mono ?_
  rintro e w5 ⟨v, rfl, ho, k5⟩
  have K5 := hide (K4.out.trans (k5.mono K4.out.size))
  have H5 := hide (H4.out.belowS k5)
  have S5 := hide (S4.out.below k5)
  clear ho k5 H4 HG K4 S4
  have HP := hide (put_at (w.heap.size + 1) w.heap.size [⟨aN, 15, oneA⟩] 6 bN none 0 0 [] 9 w5 H5.out (SrcA.nilS _))
  rw [w_p2, w_c2] at HP
  go_wp2_with fail
  refine HP.out.mono ?_
  rintro e w6 ⟨rfl, h6, k6⟩
  have S6 := hide (S5.out.keep (w' := w6) (fun h0 b o e => k6.block b (S5.out.lt h0 e) (by have := O4.out b o e; have := L43.out; omega) (by have := O4.out b o e; have := L43.out; omega)) k6.size)
  have K6 := hide (K5.out.trans (k6.below (Nat.le_refl _) (Nat.le_refl _) K5.out.size))
  have H6 := hide h6
  clear h6 k6 HP H5 K5 S5
  go_wp2_with fail
  refine (one_at w6).mono ?_
  rintro e w7 ⟨rfl, s7, k7⟩
  have K7 := hide (K6.out.trans (k7.mono K6.out.size))
  have H7 := hide (H6.out.belowS k7)
  have HS := hide (same_addrs w7 a _ nn cap 1 1 oneA (S6.out.below k7) s7)
  clear s7 k7 H6 K6 S6
  go_wp2_with fail
  refine HS.out.mono ?_
  rintro e w8 ⟨rfl, k8⟩
  have K8 := hide (K7.out.trans (k8.mono K7.out.size))
  have H8 := hide (H7.out.belowS k8)
  clear k8 K7 H7 HS
  go_wp2_with fail
  refine (listT_at (w.heap.size + 1) w.heap.size [⟨bN, 15, []⟩] w8 H8.out).mono ?_
  rintro e w9 ⟨rfl, t9, k9⟩
  have T9 : Hid (SrcT w9 (some ⟨w8.heap.size, 0, none⟩) 1 1 [bN]) := SrcT.of_block t9 rfl (by decide)
  have K9 := hide (K8.out.trans (k9.mono K8.out.size))
  clear t9 k9 K8 H8
  have HT : Hid (Calls Try.prog 20 #[.slice (some ⟨w8.heap.size, 0, none⟩) 1 1, .slice (some ⟨w9.heap.size, 0, none⟩) 1 1] (w9.alloc (.cells #[.string bN] 9)) fun e w' => e = .returned (.bool true) ∧ Below (w9.alloc (.cells #[.string bN] 9)).heap.size (w9.alloc (.cells #[.string bN] 9)) w') :=
    same_texts _ _ _ 1 1 1 1 [bN] (T9.out.below ((Below.refl _ _).alloc (Nat.le_refl _) _)) (SrcT.of_block (alloc_new _ _) rfl (by decide))
  go_wp2_with fail
  refine HT.out.mono ?_
  rintro e w10 ⟨rfl, k10⟩
  have K10 := hide ((K9.out.alloc K9.out.size _).trans (k10.mono (by have := K9.out.size; simp; omega)))
  clear k10
  go_wp2_with fail
  go_ret
  exact ⟨rfl, K10.out⟩
end Go.Proofs.Ytmolcipbopaniaa
