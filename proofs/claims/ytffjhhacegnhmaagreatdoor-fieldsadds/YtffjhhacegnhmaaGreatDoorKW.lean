/-
  Key of package fields and FieldsKeys' walk; conditions as each theorem has them.
-/
import Derived.Test.YtffjhhacegnhmaaGreatDoorWK
import Derived.Test.YtffjhhacegnhmaaGreatDoorV
import Derived.Test.YtffjhhacegnhmaaGreatDoorT
set_option linter.unusedSimpArgs false
set_option linter.unusedVariables false
namespace Go.Proofs.YtffjhhacegnhmaaGreatDoor
open Go.RowKit

/-- A request's key. -/
def keyv (m D p : List Nat) (fs : List Fd) : List Nat × Nat := if m = getM ∧ (putQ m D p fs).2 = 0 then (D ++ p, 0) else ([], 2)
theorem getM_conn : getM ≠ conn := by decide
theorem putQ_get {D p : List Nat} {fs : List Fd} (h : (putQ getM D p fs).2 = 0) : D ≠ [] ∧ path p = true ∧ ∃ r, (putQ getM D p fs).1 = [71, 69, 84, 32] ++ (sch ++ ((D ++ p) ++ 32 :: r)) := by
  unfold putQ at h ⊢
  unfold tgt at h ⊢
  by_cases hD : D = []
  · rw [if_pos hD] at h; simp at h
  · rw [if_neg hD, if_neg getM_conn] at h ⊢
    by_cases hp : path p = true
    · rw [if_pos hp] at h ⊢
      simp only at h ⊢
      split at h
      · have hq := put_ok (b := (put _ fs).1) (Prod.ext rfl h)
        refine ⟨hD, hp, ?_⟩
        rename_i ht
        rw [if_pos ht, hq.2.2.2]
        refine ⟨v11 ++ 13 :: 10 :: fl (fs.map fline), ?_⟩
        rw [fl_cons]
        simp [getM, sch]
      · simp at h
    · rw [if_neg hp] at h; simp at h
theorem strN_data (l : List Nat) : (strN l).data.toList = l.map UInt8.ofNat := by simp [strN]
theorem idx_sch (r : List UInt8) : Lib.index ([71, 69, 84, 32] ++ ([104, 116, 116, 112, 58, 47, 47] ++ r)) [104, 116, 116, 112, 58, 47, 47] = 4 := by
  simp [Lib.index, List.isPrefixOf]
theorem cutSch (r : List Nat) (w : World) (hV : Vars w) (hs : r.length ≤ 10000) : Calls Tryz.prog 17 #[.string (strN ([71, 69, 84, 32] ++ (sch ++ r))), .string ⟨#[104, 116, 116, 112, 58, 47, 47]⟩] w fun e w' => e = .returned (.tuple #[.string (strN [71, 69, 84, 32]), .string (strN r), .bool true]) ∧ Below w.heap.size w w' := by
  obtain ⟨m, hm⟩ := hV
  refine (Tryz.strings_Cut (strN ([71, 69, 84, 32] ++ (sch ++ r))) ⟨#[104, 116, 116, 112, 58, 47, 47]⟩ m w (by rw [strN_size]; simp [sch]; omega) hm).mono ?_
  rintro e w' ⟨rfl, n, rfl⟩
  refine ⟨?_, below_drewN (Below.refl _ _) n⟩
  have hc : Lib.cut (strN ([71, 69, 84, 32] ++ (sch ++ r))).data.toList [104, 116, 116, 112, 58, 47, 47] = ([71, 69, 84, 32], r.map UInt8.ofNat, true) := by
    rw [strN_data]
    have e1 : ([71, 69, 84, 32] ++ (sch ++ r)).map UInt8.ofNat = [71, 69, 84, 32] ++ ([104, 116, 116, 112, 58, 47, 47] ++ r.map UInt8.ofNat) := by simp [sch]
    rw [e1]
    unfold Lib.cut
    rw [idx_sch]
    simp
  rw [show (⟨#[104, 116, 116, 112, 58, 47, 47]⟩ : ByteArray).data.toList = [104, 116, 116, 112, 58, 47, 47] from rfl, hc]
  rfl
theorem cutBl (x r : List Nat) (w : World) (hV : Vars w) (hx : ∀ c ∈ x, 33 ≤ c ∧ c ≤ 126) (hr : ∀ c ∈ r, c < 256) (hs : x.length + r.length ≤ 10000) : Calls Tryz.prog 17 #[.string (strN (x ++ 32 :: r)), .string ⟨#[32]⟩] w fun e w' => e = .returned (.tuple #[.string (strN x), .string (strN r), .bool true]) ∧ Below w.heap.size w w' := by
  obtain ⟨m, hm⟩ := hV
  have hb : byt (strN (x ++ 32 :: r)) = x ++ 32 :: r := byt_strN _ (fun c hc => by
    rcases List.mem_append.1 hc with hc | hc
    · have := hx c hc; omega
    · rcases List.mem_cons.1 hc with rfl | hc
      · omega
      · exact hr c hc)
  have hf : fst 32 (byt (strN (x ++ 32 :: r))) = some x.length := by
    rw [hb]; exact fst_app r (fun hm => by have := hx 32 hm; omega)
  refine (Tryz.strings_Cut (strN (x ++ 32 :: r)) ⟨#[32]⟩ m w (by rw [strN_size]; simp; omega) hm).mono ?_
  rintro e w' ⟨rfl, n, rfl⟩
  refine ⟨?_, below_drewN (Below.refl _ _) n⟩
  rw [show (⟨#[32]⟩ : ByteArray).data.toList = [32] from rfl, cut_some 32 _ hf, strN_take, strN_drop, hb]
  simp
theorem clone_at (t : ByteArray) (w : World) (h : t.size ≤ 10000) : Calls Tryz.prog 18 #[.string t] w fun e w' => e = .returned (.string t) ∧ Below w.heap.size w w' := by
  have HC := hide (Tryz.stringslite_Clone t w (by omega))
  go_enter Tryz.func18, Tryz.ntmps18
  go_wp2_with fail
  refine HC.out.mono ?_
  rintro e w1 ⟨rfl, hb⟩
  have B := hide hb
  clear hb HC
  go_wp2_with fail
  go_ret
  exact ⟨rfl, B.out⟩
theorem det_mem (a : Ad) (n : List Nat) (p : Int) : ∀ x ∈ det a n p, 33 ≤ x ∧ x ≤ 126 ∧ x ≠ 47 := fun x hx => by
  unfold det at hx
  split at hx
  · rcases List.mem_append.1 hx with hx | hx
    · exact hot_mem a n x hx
    · rcases List.mem_cons.1 hx with rfl | hx
      · omega
      · have := dec_all _ x hx; omega
  · simp at hx
theorem putQ_len {m D p : List Nat} {fs : List Fd} (h : (putQ m D p fs).2 = 0) : (putQ m D p fs).1.length ≤ 8192 := by
  unfold putQ at h ⊢
  split at h
  · simp at h
  · split at h
    · rename_i t ht hm
      have hq := put_ok (b := (put (m ++ 32 :: (t ++ 32 :: v11)) fs).1) (Prod.ext rfl h)
      simp only [ht, if_pos hm]
      rw [hq.2.2.2]
      exact hq.2.2.1
    · simp at h
set_option maxRecDepth 100000 in
set_option maxHeartbeats 4000000 in
theorem key_at (m : ByteArray) (A : Ad) (h : ByteArray) (p : Int) (t : ByteArray) (x : Option Addr) (n c : Nat) (fs : List Fd) (w : World) (ha : A.ok) (hm : m.size ≤ maxLen) (hh : h.size ≤ maxLen) (ht : t.size ≤ maxLen) (hs : SrcF w x n c fs) (hfm : ∀ f ∈ fs, f.1.length ≤ maxLen ∧ f.2.length ≤ maxLen) (hV : Vars w) (hP : Pow w) :
    Calls Tryz.prog 7 #[rqV m A h p t (.slice x n c)] w fun e w' => e = .returned (.tuple #[.string (strN (keyv (byt m) (det A (byt h) p) (byt t) fs).1), .int .i64 ((keyv (byt m) (det A (byt h) p) (byt t) fs).2 : Nat)]) ∧ Below w.heap.size w w' := by
  obtain ⟨A0, A1, A2, A3⟩ := A
  unfold rqV
  obtain ⟨G0, hG0⟩ : ∃ G, G = w.heap.size := ⟨_, rfl⟩
  obtain ⟨W0, hW0⟩ : ∃ W, W = w.alloc (.cells #[.string m, .int .u8 (A0 : Nat), .int .u8 (A1 : Nat), .int .u8 (A2 : Nat), .int .u8 (A3 : Nat), .string h, .int .i64 p, .string t, .slice x n c] 30) := ⟨_, rfl⟩
  have b0 : Below w.heap.size w W0 := by rw [hW0]; exact (Below.refl _ _).alloc (Nat.le_refl _) _
  have g0 : W0.heap[G0]? = some (.cells #[.string m, .int .u8 (A0 : Nat), .int .u8 (A1 : Nat), .int .u8 (A2 : Nat), .int .u8 (A3 : Nat), .string h, .int .i64 p, .string t, .slice x n c] 30) := by rw [hW0, hG0]; exact alloc_new _ _
  have HW0 : Hid (w.alloc (.cells #[.string m, .int .u8 (A0 : Nat), .int .u8 (A1 : Nat), .int .u8 (A2 : Nat), .int .u8 (A3 : Nat), .string h, .int .i64 p, .string t, .slice x n c] 30) = W0) := hW0.symm
  have HG0 := hide hG0.symm
  have R0 := hide g0
  have B0 := hide b0
  have c0 : W0.cell? ⟨G0, 0, none⟩ = some (.string m) := by simp [World.cell?, g0]
  have heq := toList_byt m [71, 69, 84]
  rw [show ([71, 69, 84] : List UInt8).map UInt8.toNat = getM from rfl] at heq
  by_cases hg : byt m = getM
  · rw [decide_eq_true hg] at heq
    have HPQ := hide (putRequest_at m (A0, A1, A2, A3) h p t x n c fs W0 ha hm hh ht (hs.below b0) hfm (hV.below b0) (hP.below b0))
    have hdl := det_len (A0, A1, A2, A3) (byt h) p ha
    have hdm := det_mem (A0, A1, A2, A3) (byt h) p
    obtain ⟨D, hD⟩ : ∃ D, D = det (A0, A1, A2, A3) (byt h) p := ⟨_, rfl⟩
    rw [← hD] at HPQ hdl hdm ⊢
    rw [hg] at HPQ ⊢
    have htl := byt_lt t
    obtain ⟨tp, htp⟩ : ∃ tp, tp = byt t := ⟨_, rfl⟩
    rw [← htp] at HPQ htl ⊢
    have HV := hide hV
    clear hD hg htp hW0 hG0 g0 b0 ha hm hh ht hs hfm hV hP
    go_enter Tryz.func7, Tryz.ntmps7
    go_wp2_with (first | (rw [HW0.out, HG0.out]) | (refine wpList_load_rowG (by rfl) 30 _ rfl G0 rfl 30 _ (0, 0) _ R0.out Tryz.underlying30 rfl info44 ?_))
    try (rw [HW0.out, HG0.out]; go_wp2_with (first | (refine wpList_load_rowG (by rfl) 30 _ rfl G0 rfl 30 _ (0, 0) _ R0.out Tryz.underlying30 rfl info44 ?_)))
    refine HPQ.out.mono ?_
    rintro e w1 ⟨a1, c1, rfl, s1, hb1⟩
    have B1 := hide (B0.out.trans (hb1.mono B0.out.size))
    have S1 := hide s1
    clear hb1 s1 HPQ c0 R0
    by_cases hz : (putQ getM D tp fs).2 = 0
    · obtain ⟨hDne, hpt, r, hr⟩ := putQ_get hz
      have hlen := putQ_len hz
      have HK : Hid (keyv getM D tp fs = (D ++ tp, 0)) := by show _ = _; unfold keyv; rw [if_pos ⟨rfl, hz⟩]
      have hby := S1.out.byte
      have hstr := run_str_src S1.out
      obtain ⟨L, hL⟩ : ∃ L, L = (putQ getM D tp fs).1.length := ⟨_, rfl⟩
      rw [← hL] at hstr ⊢
      rw [hr] at hstr hlen hby
      simp only [List.length_append, List.length_cons, List.length_nil] at hlen
      have hpm := (path_parts hpt).2.2
      have HC1 := hide (fun W hv => cutSch ((D ++ tp) ++ 32 :: r) W hv (by simp only [List.length_append, List.length_cons]; omega))
      have HC2 := hide (fun W hv => cutBl (D ++ tp) r W hv (fun c hc => by
        rcases List.mem_append.1 hc with hc | hc
        · exact ⟨(hdm c hc).1, (hdm c hc).2.1⟩
        · exact hpm c hc) (fun c hc => hby c (by simp [hc])) (by simp only [List.length_append]; omega))
      have HC3 := hide (fun W => clone_at (strN (D ++ tp)) W (by rw [strN_size, List.length_append]; omega))
      rw [hz]
      obtain ⟨S, hS⟩ : ∃ S, S = strN ([71, 69, 84, 32] ++ (sch ++ ((D ++ tp) ++ 32 :: r))) := ⟨_, rfl⟩
      obtain ⟨S2, hS2⟩ : ∃ S, S = strN ((D ++ tp) ++ 32 :: r) := ⟨_, rfl⟩
      obtain ⟨S3, hS3⟩ : ∃ S, S = strN (D ++ tp) := ⟨_, rfl⟩
      rw [← hS] at hstr HC1
      rw [← hS2] at HC1 HC2
      rw [← hS3] at HC2 HC3
      have H3 := hide hS3
      clear hS hS2 hS3 hr hz hDne hpt hlen hby hpm hdm hdl hL
      go_wp2_with fail
      refine (HC1.out _ (HV.out.below B1.out)).mono ?_
      rintro e w2 ⟨rfl, hb2⟩
      have B2 := hide (B1.out.trans (hb2.mono B1.out.size))
      clear hb2 hstr HC1
      go_wp2_with fail
      refine (HC2.out _ (HV.out.below B2.out)).mono ?_
      rintro e w3 ⟨rfl, hb3⟩
      have B3 := hide (B2.out.trans (hb3.mono B2.out.size))
      clear hb3 HC2
      go_wp2_with fail
      refine (HC3.out _).mono ?_
      rintro e w4 ⟨rfl, hb4⟩
      have B4 := hide (B3.out.trans (hb4.mono B3.out.size))
      clear hb4 HC3
      go_wp2_with fail
      go_ret2
      exact ⟨by rw [HK.out, H3.out]; rfl, B4.out⟩
    · have HK : Hid (keyv getM D tp fs = ([], 2)) := by show _ = _; unfold keyv; rw [if_neg (fun e => hz e.2)]
      obtain ⟨L, hL⟩ : ∃ L, L = (putQ getM D tp fs).1.length := ⟨_, rfl⟩
      obtain ⟨E, hE⟩ : ∃ E, E = (putQ getM D tp fs).2 := ⟨_, rfl⟩
      rw [← hL, ← hE]
      rw [← hE] at hz
      have q1 : ((E : Int) == 0) = false := by simp; omega
      have q2 : ((E : Int) != 0) = true := by simp; omega
      clear hL hE hz S1
      go_wp2_with fail
      go_ret2
      exact ⟨by rw [HK.out]; rfl, B1.out⟩
  · rw [decide_eq_false hg] at heq
    have HK : Hid (keyv (byt m) (det (A0, A1, A2, A3) (byt h) p) (byt t) fs = ([], 2)) := by show _ = _; unfold keyv; rw [if_neg (fun e => hg e.1)]
    clear hg hW0 hG0 g0 b0 ha hm hh ht hs hfm hV hP
    go_enter Tryz.func7, Tryz.ntmps7
    go_wp2_with (first | (rw [HW0.out, HG0.out]))
    try (rw [HW0.out, HG0.out]; go_wp2_with fail)
    go_ret2
    exact ⟨by rw [HK.out]; rfl, B0.out⟩
theorem keyv_pos {m p : List Nat} {a : Ad} {n : List Nat} {q : Int} {fs : List Fd} (h : (keyv m (det a n q) p fs).2 = 0) : keyv m (det a n q) p fs = (det a n q ++ p, 0) ∧ det a n q ≠ [] ∧ p.head? = some 47 := by
  unfold keyv at h ⊢
  split at h
  · rename_i hh
    rw [if_pos hh]
    have hz := hh.2
    rw [hh.1] at hz
    obtain ⟨h1, h2, _⟩ := putQ_get hz
    exact ⟨rfl, h1, (path_parts h2).1⟩
  · simp at h
theorem keyv_neg {m D p : List Nat} {fs : List Fd} (h : (keyv m D p fs).2 ≠ 0) : (keyv m D p fs).1 = [] := by
  unfold keyv at h ⊢
  split
  · rename_i hh
    rw [if_pos hh] at h
    exact absurd rfl h
  · rfl
theorem key_split {x y p q : List Nat} (hx : 47 ∉ x) (hy : 47 ∉ y) (hp : p.head? = some 47) (hq : q.head? = some 47) (h : x ++ p = y ++ q) : x = y ∧ p = q := by
  obtain ⟨p', rfl⟩ : ∃ p', p = 47 :: p' := by
    cases p with
    | nil => simp at hp
    | cons c r => simp at hp; exact ⟨r, by rw [hp]⟩
  obtain ⟨q', rfl⟩ : ∃ q', q = 47 :: q' := by
    cases q with
    | nil => simp at hq
    | cons c r => simp at hq; exact ⟨r, by rw [hq]⟩
  have e1 := fst_app p' hx
  have e2 := fst_app q' hy
  rw [h, e2] at e1
  have hl : y.length = x.length := Option.some.inj e1
  have := List.append_inj h hl.symm
  exact ⟨this.1, this.2⟩
theorem det_inj {a b : Ad} {n m : List Nat} {p q : Int} (ha : a.ok) (hb : b.ok) (h : det a n p = det b m q) (hne : det a n p ≠ []) : a = b ∧ n = m ∧ p = q := by
  obtain ⟨d1, hp⟩ := det_isD ha hne
  obtain ⟨d2, hq⟩ := det_isD hb (by rw [← h]; exact hne)
  have h1 := d1.back
  have h2 := d2.back
  rw [← h, h1] at h2
  simp only [Prod.mk.injEq, List.cons.injEq, and_true] at h2
  obtain ⟨⟨⟨e0, e1, e2, e3⟩, e4⟩, e5⟩ := h2
  refine ⟨Prod.ext e0 (Prod.ext e1 (Prod.ext e2 e3)), e4, by omega⟩
/-- One key, one destination and one path. -/
theorem key_eq {m m' p p' : List Nat} {a b : Ad} {n k : List Nat} {i j : Int} {fs gs : List Fd} (ha : a.ok) (hb : b.ok) (h1 : (keyv m (det a n i) p fs).2 = 0) (h2 : (keyv m' (det b k j) p' gs).2 = 0) :
    ((keyv m (det a n i) p fs).1 = (keyv m' (det b k j) p' gs).1) ↔ ((a = b ∧ n = k ∧ i = j) ∧ p = p') := by
  obtain ⟨e1, n1, q1⟩ := keyv_pos h1
  obtain ⟨e2, n2, q2⟩ := keyv_pos h2
  rw [e1, e2]
  constructor
  · intro h
    obtain ⟨g1, g2⟩ := key_split (fun hm => (det_mem a n i 47 hm).2.2 rfl) (fun hm => (det_mem b k j 47 hm).2.2 rfl) q1 q2 h
    exact ⟨det_inj ha hb g1 n1, g2⟩
  · rintro ⟨⟨rfl, rfl, rfl⟩, rfl⟩; rfl
end Go.Proofs.YtffjhhacegnhmaaGreatDoor
