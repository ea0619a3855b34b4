/-
  Fields in memory, and the reader of lines of package head: next; fields of package head; conditions as each theorem has them.
-/
import Derived.Test.YtccoddmdlbdfjaaGreatDoorJoinedHB
import Derived.Test.YtccoddmdlbdfjaaGreatDoorJoinedD
import Derived.Deep.LoopGhost
set_option linter.unusedSimpArgs false
set_option linter.unusedVariables false
namespace Go.Proofs.YtccoddmdlbdfjaaGreatDoor
open Go.RowKit

/-- Fields as they lie in memory. -/
def fcs : List Fd → List Value
  | [] => []
  | f :: r => .string (strN f.1) :: .string (strN f.2) :: fcs r
theorem fcs_len : ∀ fs, (fcs fs).length = 2 * fs.length
  | [] => rfl
  | f :: r => by simp [fcs, fcs_len r]; omega
theorem fcs_app : ∀ (a b : List Fd), fcs (a ++ b) = fcs a ++ fcs b
  | [], b => rfl
  | f :: a, b => by simp [fcs, fcs_app a b]
theorem fcs_get : ∀ (fs : List Fd) (i : Nat), i < fs.length → (fcs fs)[2 * i]? = some (.string (strN (fs.getD i ([], [])).1)) ∧ (fcs fs)[2 * i + 1]? = some (.string (strN (fs.getD i ([], [])).2))
  | [], i, h => by simp at h
  | f :: r, 0, h => by simp [fcs]
  | f :: r, i + 1, h => by
    have ih := fcs_get r i (by simpa using h)
    rw [show 2 * (i + 1) = 2 * i + 1 + 1 by omega, show 2 * i + 1 + 1 + 1 = (2 * i + 1) + 1 + 1 by omega]
    simpa [fcs] using ih
theorem fcs_one (fs : List Fd) : ∀ u ∈ fcs fs, u.oneCell' = true := by
  induction fs with
  | nil => simp [fcs]
  | cons f r ih =>
    intro u hu
    simp [fcs] at hu
    rcases hu with rfl | rfl | hu
    · rfl
    · rfl
    · exact ih u hu
def okB (fs : List Fd) : Prop := ∀ f ∈ fs, (∀ x ∈ f.1, x < 256) ∧ ∀ x ∈ f.2, x < 256
/-- A slice of fields wherever it lies. -/
structure SrcF (w : World) (a : Option Addr) (len cap : Nat) (fs : List Fd) : Prop where
  hlen : fs.length = len
  hcap : len ≤ cap
  hmax : cap ≤ maxLen
  nil : a = none → cap = 0
  lies : 0 < len → ∃ b o, a = some ⟨b, o, none⟩ ∧ b < w.heap.size ∧ ∀ j u, (fcs fs)[j]? = some u → w.cell? ⟨b, o + j, none⟩ = some u
  byte : okB fs
theorem SrcF.keep {w w' : World} {a : Option Addr} {len cap : Nat} {fs : List Fd} (h : SrcF w a len cap fs) (hk : 0 < len → ∀ b o, a = some ⟨b, o, none⟩ → w'.heap[b]? = w.heap[b]?) (hs : w.heap.size ≤ w'.heap.size) : SrcF w' a len cap fs := by
  refine ⟨h.hlen, h.hcap, h.hmax, h.nil, fun h0 => ?_, h.byte⟩
  obtain ⟨b, o, e, hb, hc⟩ := h.lies h0
  exact ⟨b, o, e, by omega, fun j u hu => (World.cell?_of_block (hk h0 b o e)).trans (hc j u hu)⟩
theorem SrcF.lt {w : World} {a : Option Addr} {len cap : Nat} {fs : List Fd} (h : SrcF w a len cap fs) (h0 : 0 < len) {b o : Nat} (e : a = some ⟨b, o, none⟩) : b < w.heap.size := by
  obtain ⟨b', o', e', hb, hc⟩ := h.lies h0
  rw [e] at e'
  simp only [Option.some.injEq, Addr.mk.injEq, and_true] at e'
  omega
theorem SrcF.below {w w' : World} {a : Option Addr} {len cap : Nat} {fs : List Fd} (h : SrcF w a len cap fs) (k : Below w.heap.size w w') : SrcF w' a len cap fs :=
  h.keep (fun h0 b o e => k.block b (h.lt h0 e)) k.size
theorem SrcF.nilS (w : World) : SrcF w none 0 0 [] := ⟨rfl, Nat.le_refl _, Nat.zero_le _, fun _ => rfl, fun h => by omega, by intro f hf; simp at hf⟩
theorem SrcF.at_ {w : World} {a : Option Addr} {len cap : Nat} {fs : List Fd} (h : SrcF w a len cap fs) {i : Nat} (hi : i < len) : ∃ b o, a = some ⟨b, o, none⟩ ∧ w.cell? ⟨b, o + 2 * i, none⟩ = some (.string (strN (fs.getD i ([], [])).1)) ∧ w.cell? ⟨b, o + 2 * i + 1, none⟩ = some (.string (strN (fs.getD i ([], [])).2)) := by
  obtain ⟨b, o, e, hb, hc⟩ := h.lies (by omega)
  obtain ⟨g1, g2⟩ := fcs_get fs i (by rw [h.hlen]; exact hi)
  exact ⟨b, o, e, hc _ _ g1, by have := hc _ _ g2; rwa [← Nat.add_assoc] at this⟩
/-- v is the call's own slice of fields, in a block from B on. -/
def OwnF (w : World) (B : Nat) (v : Value) (fs : List Fd) : Prop := w.ownsRow B 68 2 v fs.length (fcs fs)
theorem OwnF.nilS (w : World) (B : Nat) : OwnF w B (.slice none 0 0) [] := ⟨rfl, Or.inl ⟨rfl, rfl⟩⟩
theorem OwnF.keep {w w' : World} {B : Nat} {v : Value} {fs : List Fd} (h : OwnF w B v fs) (k : ∀ g, v.ownBlock = some g → w'.heap[g]? = w.heap[g]?) : OwnF w' B v fs := by
  refine ⟨h.1, ?_⟩
  rcases h.2 with h0 | ⟨x, cap, cur, hv, hx, hh, hrest⟩
  · exact Or.inl h0
  · exact Or.inr ⟨x, cap, cur, hv, hx, (k x (by rw [hv]; rfl)).trans hh, hrest⟩
theorem OwnF.block {w : World} {B : Nat} {v : Value} {fs : List Fd} (h : OwnF w B v fs) {g : Nat} (hg : v.ownBlock = some g) : B ≤ g ∧ ∃ cur, w.heap[g]? = some (.cells cur 68) := by
  rcases h.2 with ⟨rfl, _⟩ | ⟨x, cap, cur, rfl, hx, hh, hrest⟩
  · cases hg
  · simp [Value.ownBlock] at hg
    subst hg
    exact ⟨hx, cur, hh⟩
theorem OwnF.below {w w' : World} {B : Nat} {v : Value} {fs : List Fd} (h : OwnF w B v fs) (k : Below w.heap.size w w') : OwnF w' B v fs :=
  h.keep fun g hg => by
    obtain ⟨_, cur, hh⟩ := h.block hg
    exact k.block g (lt_of_some hh)
theorem OwnF.src {w : World} {B : Nat} {v : Value} {fs : List Fd} (h : OwnF w B v fs) (hb : okB fs) : ∃ a cap, v = .slice a fs.length cap ∧ SrcF w a fs.length cap fs ∧ (∀ b o, a = some ⟨b, o, none⟩ → B ≤ b) := by
  rcases h.2 with ⟨rfl, h0⟩ | ⟨g, cap, cur, rfl, hx, hh, hc, hm, hs, ht⟩
  · have : fs = [] := List.length_eq_zero_iff.1 h0
    subst this
    exact ⟨none, 0, rfl, SrcF.nilS w, fun b o e => by cases e⟩
  · refine ⟨_, cap, rfl, ⟨rfl, hc, hm, (fun e => by cases e), fun _ => ⟨g, 0, rfl, lt_of_some hh, fun j u hu => ?_⟩, hb⟩, fun b o e => by cases e; exact hx⟩
    have hj := (List.getElem?_eq_some_iff.1 hu).1
    rw [fcs_len] at hj
    have : cur.toList[j]? = some u := by rw [← hu, ← ht, List.getElem?_take, if_pos (by omega)]
    rw [Nat.zero_add]
    simp only [World.cell?, hh]
    simpa using this
theorem inf76 : ∃ i, Tryz.prog.info? 68 = some i ∧ i.zero = some (.agg #[.string ⟨#[]⟩, .string ⟨#[]⟩]) ∧ i.size = 2 ∧ i.bytes = 32 := info_parts (by kernel_rfl)
/-- Fields that are appended. -/
theorem own_appF {w : World} {B : Nat} {v : Value} {fs : List Fd} (hown : OwnF w B v fs) (a : Addr) (m c : Nat) (gs : List Fd) (hl : gs.length = m) (hnews : ∀ j u, (fcs gs)[j]? = some u → w.cell? (a.add j) = some u)
    (hlen : (fs.length + m) * 32 ≤ 140737488355328) (hB : B ≤ w.heap.size) :
    ∃ v' w', (Builtin.append_ #[32, 32] 32 #[v, .slice (some a) m c]).run Tryz.prog w = .ok v' w' ∧ OwnF w' B v' (fs ++ gs) ∧ Below B w w' ∧ (∀ k, k < w.heap.size → v.ownBlock ≠ some k → w'.heap[k]? = w.heap[k]?) := by
  obtain ⟨i, hi, hz, hsz, hby⟩ := inf76
  obtain ⟨v', w', hr, ho, hg, _⟩ := run_append_own (P := Tryz.prog) w B 32 32 68 i (.agg #[.string ⟨#[]⟩, .string ⟨#[]⟩]) 2 32 Tryz.underlying32 hi hz hsz hby rfl (by omega) v fs.length (fcs fs) hown a m c (fcs gs) (by rw [fcs_len, hl]; omega) hnews (fcs_one _) (by unfold maxLen; omega) hlen hB
  refine ⟨v', w', hr, ?_, (Below.refl B w).grown hg hB (fun k hk => (hown.block hk).1), fun k hk hne => hg.block k hk (fun e => hne e.symm)⟩
  unfold OwnF
  rw [List.length_append, hl, fcs_app]
  exact ho

theorem idx_pair : ∀ l : List UInt8, Lib.index l [13, 10] = match pair (l.map UInt8.toNat) with | none => -1 | some k => (k : Int)
  | [] => rfl
  | c :: r => by
    have ih := idx_pair r
    rw [Lib.index, List.map_cons, pair]
    have hh : (([13, 10] : List UInt8).isPrefixOf (c :: r) = true) ↔ (c.toNat = 13 ∧ (r.map UInt8.toNat).head? = some 10) := by
      cases r with
      | nil => simp [List.isPrefixOf]
      | cons d r =>
        simp only [List.isPrefixOf, Bool.and_eq_true, beq_iff_eq, List.map_cons, List.head?_cons, Option.some.injEq, Bool.and_true]
        constructor
        · rintro ⟨h1, h2⟩
          rw [← h1, ← h2]; exact ⟨rfl, rfl⟩
        · rintro ⟨h1, h2⟩
          exact ⟨(UInt8.toNat_inj.1 (by simpa using h1)).symm, (UInt8.toNat_inj.1 (by simpa using h2)).symm⟩
    by_cases h : c.toNat = 13 ∧ (r.map UInt8.toNat).head? = some 10
    · rw [if_pos h, if_pos (hh.2 h)]; rfl
    · rw [if_neg h, if_neg (fun e => h (hh.1 e)), ih]
      cases pair (r.map UInt8.toNat) with
      | none => simp
      | some k => simp
theorem info84 : (Tryz.prog.info? 104).map (·.size) = some 2 := by kernel_rfl
/-- A reader of lines in memory. -/
def rdC (T : ByteArray) (a : Nat) : Array Value := #[.string T, .int .i64 (a : Nat)]
set_option maxRecDepth 100000 in
set_option maxHeartbeats 4000000 in
theorem next_at (T : ByteArray) (a G : Nat) (x rest : List Nat) (w : World) (hV : Vars w) (hG : w.heap[G]? = some (.cells (rdC T a) 104)) (hG0 : G ≠ 0) (hT : T.size ≤ 8192) (ha : a ≤ T.size) (hd : (byt T).drop a = x ++ 13 :: 10 :: rest) (hx : pair x = none) :
    Calls Tryz.prog 54 #[.pointer (some ⟨G, 0, none⟩)] w fun e w' => e = .returned (.tuple #[.int .i64 (a : Nat), .string (strN x)]) ∧ w'.heap[G]? = some (.cells (rdC T (a + x.length + 2)) 104) ∧ Kept G G w w' := by
  obtain ⟨m, hm⟩ := hV
  have c0 : w.cell? ⟨G, 0, none⟩ = some (.string T) := by simp [World.cell?, hG, rdC]
  have c1 : w.cell? ⟨G, 1, none⟩ = some (.int .i64 (a : Nat)) := by simp [World.cell?, hG, rdC]
  have f1 : w.frozen? ⟨G, 1, none⟩ = false := by simp [World.frozen?, hG]
  obtain ⟨S, hS⟩ : ∃ S, S = T.extract a T.size := ⟨_, rfl⟩
  have hSb : byt S = x ++ 13 :: 10 :: rest := by rw [hS, byt_drop, hd]
  have hSl : S.size ≤ 8192 := by
    have := congrArg List.length hd
    rw [List.length_drop, byt_length] at this
    rw [← byt_length, hSb, ← this]; omega
  have hxl : a + x.length + 2 ≤ 8192 := by
    have := congrArg List.length hd
    rw [List.length_drop, byt_length] at this
    simp at this; omega
  have HC := hide (Tryz.strings_Cut S ⟨#[13, 10]⟩ m w (by omega) hm)
  have hcut : Lib.cut S.data.toList [13, 10] = (S.data.toList.take x.length, S.data.toList.drop (x.length + 2), true) := by
    have := idx_pair S.data.toList
    rw [show S.data.toList.map UInt8.toNat = byt S from rfl, hSb, pair_app x rest hx] at this
    unfold Lib.cut
    rw [this, if_pos (by simp)]
    simp
  rw [show (⟨#[13, 10]⟩ : ByteArray).data.toList = [13, 10] from rfl, hcut] at HC
  have hstr : (⟨(S.data.toList.take x.length).toArray⟩ : ByteArray) = strN x := by
    rw [strN_mk, List.map_take, show S.data.toList.map UInt8.toNat = byt S from rfl, hSb, List.take_append_of_le_length (Nat.le_refl _), List.take_of_length_le (Nat.le_refl _)]
  rw [hstr] at HC
  obtain ⟨X, hX⟩ : ∃ X, X = strN x := ⟨_, rfl⟩
  rw [← hX] at HC ⊢
  obtain ⟨L, hL⟩ : ∃ L, L = x.length := ⟨_, rfl⟩
  have hXs : (X.size : Int) = (L : Int) := by rw [hX, strN_size, hL]
  rw [← hL] at hxl ⊢
  have HS := hide hS.symm
  have HG := hide hG
  obtain ⟨NT, hNT⟩ : ∃ N, N = T.size := ⟨_, rfl⟩
  have hNTI : (T.size : Int) = (NT : Int) := by rw [hNT]
  rw [← hNT] at ha hT
  have HNT := hide hNT
  clear hm hG hS hSb hSl hcut hstr hX hL hd hx hNT
  go_enter Tryz.func54, Tryz.ntmps54
  go_wp2_with fail
  rw [HS.out]
  refine HC.out.mono ?_
  rintro e w1 ⟨rfl, n, rfl⟩
  have d1 : (w.drewN n).cell? ⟨G, 1, none⟩ = some (.int .i64 (a : Nat)) := c1
  have d2 : (w.drewN n).frozen? ⟨G, 1, none⟩ = false := f1
  have hG' : (w.drewN n).heap[G]? = some (.cells (rdC T a) 104) := HG.out
  have HN1 := hide (heap_setCell_same hG' 1 (.int .i64 ((a + L + 2 : Nat) : Int)))
  have HN2 : Hid (Kept G G w (w.drewN n)) := ⟨rfl, rfl, rfl, Nat.le_refl _, fun _ _ _ _ => rfl⟩
  obtain ⟨w1, hw1⟩ : ∃ w1, w1 = w.drewN n := ⟨_, rfl⟩
  rw [← hw1] at d1 d2 HN1 HN2 ⊢
  clear hw1 c0 c1 f1 hG' HC HG
  go_wp2_with fail
  go_ret2
  refine ⟨rfl, ?_, ?_⟩
  · have := HN1.out
    rw [show ((a + L + 2 : Nat) : Int) = (a : Int) + ((L : Int) + 2) by omega] at this
    rw [this]
    congr 2
  · exact HN2.out.set _ _
end Go.Proofs.YtccoddmdlbdfjaaGreatDoor

set_option linter.unusedSimpArgs false
set_option linter.unusedVariables false
namespace Go.Proofs.YtccoddmdlbdfjaaGreatDoor
open Go.RowKit

theorem Vars.kept {w w' : World} {G : Nat} (h : Vars w) (k : Kept G G w w') (hG : G ≠ 0) : Vars w' := by
  obtain ⟨m, hm⟩ := h
  exact ⟨m, (World.cell?_of_block (k.block 0 (lt_of_cell hm) (Ne.symm hG) (Ne.symm hG))).trans hm⟩
theorem IsEr.keep {w w' : World} {e : Er} {v : Value} (h : IsEr w e v) (k : ∀ (b : Nat) (C : Array Value), w.heap[b]? = Option.some (.cells C 147) → w'.heap[b]? = w.heap[b]?) : IsEr w' e v := by
  cases e with
  | ok => exact h
  | one a c =>
    obtain ⟨b, hv, hb⟩ := h
    exact ⟨b, hv, (k b _ hb).trans hb⟩
  | two a a2 c =>
    obtain ⟨b, b2, hv, hb, hb2⟩ := h
    exact ⟨b, b2, hv, (k b _ hb).trans hb, (k b2 _ hb2).trans hb2⟩
theorem IsH.keep {w w' : World} {e : Hr} {v : Value} (h : IsH w e v) (k : ∀ (b : Nat) (C : Array Value), w.heap[b]? = some (.cells C 147) → w'.heap[b]? = w.heap[b]?) : IsH w' e v := by
  cases e with
  | ok => exact h
  | one a c =>
    obtain ⟨b, hv, hb⟩ := h
    exact ⟨b, hv, (k b _ hb).trans hb⟩
  | wr a e =>
    obtain ⟨he, b, u, hv, hb, hu⟩ := h
    exact ⟨he, b, u, hv, (k b _ hb).trans hb, hu.keep k⟩
theorem keptB {G : Nat} {w w' : World} (k : Below w.heap.size w w') : Kept G G w w' := ⟨k.os, k.tape, k.output, k.size, fun i hi _ _ => k.block i hi⟩
theorem Kept.trans1 {G : Nat} {a b c : World} (h : Kept G G a b) (k : Kept G G b c) : Kept G G a c :=
  ⟨k.os.trans h.os, k.tape.trans h.tape, k.output.trans h.output, Nat.le_trans h.size k.size, fun i hi h1 h2 => (k.block i (by have := h.size; omega) h1 h2).trans (h.block i hi h1 h2)⟩
theorem flds_step {a : Nat} {x : List Nat} {r : List (List Nat)} {acc : List Fd} (h : acc.length ≠ 64) (h2 : (fld x).2 = 0) : flds a (x :: r) acc = flds (a + x.length + 2) r (acc ++ [(fld x).1]) := by
  rw [flds, if_neg h, if_neg (by simp [h2])]
theorem fld_byte {x : List Nat} (h : ∀ c ∈ x, c < 256) : (∀ c ∈ (fld x).1.1, c < 256) ∧ ∀ c ∈ (fld x).1.2, c < 256 := by
  unfold fld
  split
  · simp
  · rename_i k _
    split
    · simp
    · split
      · simp
      · split
        · simp
        · exact ⟨fun c hc => h c (List.mem_of_mem_take hc), fun c hc => h c (List.mem_of_mem_drop (trim_mem hc))⟩
theorem fl_mem {ls : List (List Nat)} {x : List Nat} (hx : x ∈ ls) {c : Nat} (hc : c ∈ x) : c ∈ fl ls := by
  induction ls with
  | nil => simp at hx
  | cons y r ih =>
    rw [fl_cons]
    simp at hx
    rcases hx with rfl | hx
    · simp [hc]
    · simp [ih hx]
theorem tot_drop {ls : List (List Nat)} {x : List Nat} (hx : x ∈ ls) : x.length ≤ (fl ls).length := by
  induction ls with
  | nil => simp at hx
  | cons y r ih =>
    rw [fl_cons]
    simp at hx
    rcases hx with rfl | hx
    · simp
    · have := ih hx; simp; omega
set_option maxRecDepth 100000 in
set_option maxHeartbeats 4000000 in
theorem fields_at (T : ByteArray) (a G : Nat) (ls : List (List Nat)) (w : World) (hV : Vars w) (hG : w.heap[G]? = some (.cells (rdC T a) 104)) (hG0 : G ≠ 0) (hT : T.size ≤ 8192) (ha : a ≤ T.size) (hd : (byt T).drop a = fl ls) (hL : ∀ x ∈ ls, Ln x) :
    Calls Tryz.prog 56 #[.pointer (some ⟨G, 0, none⟩)] w fun e w' => ∃ v u, e = .returned (.tuple #[v, u]) ∧ OwnF w' w.heap.size v (flds a ls []).1 ∧ IsH w' (flds a ls []).2 u ∧ Kept G G w w' := by
  have HLT := hide (byt_lt T)
  have HT := hide hT
  have HV := hide hV
  have HL := hide hL
  have HG0 := hide hG0
  have HGL := hide (lt_of_some hG)
  have HI : Hid (flds a ls [] = flds a (ls.drop 0) [] ∧ (byt T).drop a = fl (ls.drop 0) ∧ a ≤ T.size ∧ w.heap[G]? = some (.cells (rdC T a) 104) ∧ OwnF w w.heap.size (.slice none 0 0) [] ∧ Kept G G w w ∧ okB []) :=
    ⟨rfl, hd, ha, hG, OwnF.nilS _ _, ⟨rfl, rfl, rfl, Nat.le_refl _, fun _ _ _ _ => rfl⟩, by intro f hf; simp at hf⟩
  clear hV hG hG0 hT ha hd hL
  go_enter Tryz.func56, Tryz.ntmps56
  go_wp2_with fail
  go_step3
  go_wp2_with fail
  go_step3
  go_wp2_with fail
  go_loopg [4] ls.length (fun g v wr => ∃ k ad cap n a', k + g = ls.length ∧ v = .slice ad n cap ∧ n ≤ 64 ∧ a' ≤ 8192 ∧ Hid (∃ acc : List Fd, acc.length = n ∧ flds a ls [] = flds a' (ls.drop k) acc ∧ (byt T).drop a' = fl (ls.drop k) ∧ a' ≤ T.size ∧ wr.heap[G]? = some (.cells (rdC T a') 104) ∧ OwnF wr w.heap.size v acc ∧ Kept G G w wr ∧ okB acc))
  case atStart => exact ⟨0, none, 0, 0, a, by omega, rfl, by omega, by have h1 := HI.out.2.2.1; have h2 := HT.out; omega, [], rfl, HI.out⟩
  case round =>
    obtain ⟨k, ad, cap, n, a', hk, rfl, hn, ha8, HR⟩ := hrel
    obtain ⟨acc, i0, i1, i2, i3, i4, i5, i6, i7⟩ := HR.out
    cases gk with
    | zero =>
      have hnil : ls.drop k = [] := List.drop_eq_nil_of_le (by omega)
      rw [hnil] at i1 i2
      have HN := hide (next_at T a' G [] [] wr (HV.out.kept i6 HG0.out) i4 HG0.out HT.out i3 i2 rfl)
      have HF : Hid (flds a ls [] = (acc, .ok)) := i1
      have I5 := hide i5
      have I6 := hide i6
      obtain ⟨e1, e2⟩ := toList_nil (strN []) rfl
      clear hnil i0 i1 i2 i3 i4 i5 i6 i7 HR
      go_wp2_with fail
      refine HN.out.mono ?_
      rintro e w1 ⟨rfl, h1, h2⟩
      have O1 : Hid (OwnF w1 w.heap.size (.slice ad n cap) acc) := I5.out.keep fun g hg => by
        obtain ⟨hw, cur, hc⟩ := I5.out.block hg
        have hne : g ≠ G := fun e => by have := HGL.out; omega
        exact h2.block g (lt_of_some hc) hne hne
      have K1 := hide (I6.out.trans1 h2)
      clear h1 h2 HN
      go_wp2_with fail
      rw [Exit.noGoto_ret]
      go_ret2
      exact ⟨_, _, rfl, by rw [HF.out]; exact O1.out, by rw [HF.out]; rfl, K1.out⟩
    | succ g =>
      have hkl : k < ls.length := by omega
      obtain ⟨x, hx⟩ : ∃ x, x = ls.getD k [] := ⟨_, rfl⟩
      have hxm : x ∈ ls := by rw [hx]; exact getD_mem hkl
      rw [drop_getD (d := []) hkl, ← hx] at i1 i2
      have hxL := HL.out x hxm
      rw [fl_cons] at i2
      have hxb : ∀ c ∈ x, c < 256 := fun c hc => HLT.out c (List.mem_of_mem_drop (i := a') (by rw [i2]; simp [hc]))
      have hlen := congrArg List.length i2
      rw [List.length_drop, byt_length] at hlen
      simp at hlen
      have h82 := HT.out
      have hf2 : 2 ≤ (fl (ls.drop (k + 1))).length := tot_ge _
      have HN := hide (next_at T a' G x (fl (ls.drop (k + 1))) wr (HV.out.kept i6 HG0.out) i4 HG0.out HT.out i3 i2 hxL.2)
      have hdn : (byt T).drop (a' + x.length + 2) = fl (ls.drop (k + 1)) := by
        rw [Nat.add_assoc, ← List.drop_drop, i2, List.drop_append, List.drop_eq_nil_of_le (by omega), show x.length + 2 - x.length = 2 by omega]; rfl
      have HRF : Hid (∀ W, Vars W → Calls Tryz.prog 97 #[.string (strN x)] W fun e w' => e = .returned (.tuple #[.agg (fdC (fld x).1), .int .i64 ((fld x).2 : Nat)]) ∧ Below W.heap.size W w') := fun W hW => by
        have := readField_at (strN x) W (by rw [strN_size]; omega) hW
        rw [byt_strN x hxb] at this
        exact this
      obtain ⟨e1, e2⟩ := toList_ne (strN x) (by rw [byt_strN x hxb]; exact hxL.1)
      have HFB := hide (fld_byte hxb)
      obtain ⟨L, hL⟩ : ∃ L, L = x.length := ⟨_, rfl⟩
      have ha2 : a' + L + 2 ≤ 8192 := by omega
      rw [← hL] at HN hdn
      have hT2 : a' + L + 2 ≤ T.size := by omega
      have HNX : Hid ((byt T).drop (a' + L + 2) = fl (ls.drop (k + 1)) ∧ a' + L + 2 ≤ T.size) := ⟨hdn, hT2⟩
      have HST : Hid (acc.length ≠ 64 → (fld x).2 = 0 → flds a ls [] = flds (a' + L + 2) (ls.drop (k + 1)) (acc ++ [(fld x).1])) := fun h1 h2 => by rw [i1, flds_step h1 h2, hL]
      have HE1 : Hid (acc.length = 64 → flds a ls [] = ([], .one a' 3)) := fun h1 => by rw [i1, flds, if_pos h1]
      have HE2 : Hid (acc.length ≠ 64 → (fld x).2 ≠ 0 → flds a ls [] = ([], .one a' (fld x).2)) := fun h1 h2 => by rw [i1, flds, if_neg h1, if_pos h2]
      obtain ⟨X, hX⟩ : ∃ X, X = strN x := ⟨_, rfl⟩
      obtain ⟨fx, hfx⟩ : ∃ f, f = fld x := ⟨_, rfl⟩
      rw [← hX] at HN HRF e1 e2
      rw [← hfx] at HRF HFB HST HE2
      obtain ⟨⟨p, q⟩, cd⟩ := fx
      simp only [fdC] at HRF HFB HST HE2
      obtain ⟨P, hP⟩ : ∃ P, P = strN p := ⟨_, rfl⟩
      obtain ⟨R, hR⟩ : ∃ R, R = strN q := ⟨_, rfl⟩
      rw [← hP, ← hR] at HRF
      have HPQ : Hid (P = strN p ∧ R = strN q) := ⟨hP, hR⟩
      have I0 := hide i0
      have I5 := hide i5
      have I6 := hide i6
      have I7 := hide i7
      clear hkl hx hxm i0 i1 i2 i3 i4 i5 i6 i7 HR hxL hxb hlen hdn hT2 hL hX hfx hP hR h82 hf2
      go_wp2_with fail
      refine HN.out.mono ?_
      rintro e w1 ⟨rfl, h1, h2⟩
      have O1 : Hid (OwnF w1 w.heap.size (.slice ad n cap) acc) := I5.out.keep fun g hg => by
        obtain ⟨hw, cur, hc⟩ := I5.out.block hg
        have hne : g ≠ G := fun e => by have := HGL.out; omega
        exact h2.block g (lt_of_some hc) hne hne
      have K1 := hide (I6.out.trans1 h2)
      have G1 := hide h1
      clear h1 h2 HN I5 I6
      by_cases h64 : n = 64
      · have q64 : ((n : Int) == 64) = true := by simp; omega
        have HF := hide (HE1.out (by rw [I0.out]; exact h64))
        have HRE := hide (refuseH_er a' 3 w1)
        clear h64 HE1 HE2 HST
        go_wp2_with fail
        refine HRE.out.mono ?_
        rintro e w2 ⟨v2, rfl, h1, h2⟩
        have H1 := hide h1
        have K2 := hide (K1.out.trans1 (keptB h2))
        clear h1 h2 HRE
        go_wp2_with fail
        rw [Exit.noGoto_ret]
        go_ret2
        exact ⟨_, _, rfl, by rw [HF.out]; exact OwnF.nilS _ _, by rw [HF.out]; exact H1.out, K2.out⟩
      · have q64 : ((n : Int) == 64) = false := by simp; omega
        go_wp2_with fail
        refine (HRF.out w1 (HV.out.kept K1.out HG0.out)).mono ?_
        rintro e w2 ⟨rfl, h2⟩
        have O2 := O1.out.below h2
        have G2 := keepB h2 G1.out
        have K2 := K1.out.trans1 (keptB h2)
        obtain ⟨W3, hW3⟩ : ∃ W3, W3 = w2.alloc (.cells #[.string P, .string R] 68) := ⟨_, rfl⟩
        have b3 : Below w2.heap.size w2 W3 := by rw [hW3]; exact (Below.refl _ _).alloc (Nat.le_refl _) _
        have q3 : W3.heap[w2.heap.size]? = some (.cells #[.string P, .string R] 68) := by rw [hW3]; exact alloc_new _ _
        have O3 := O2.below b3
        have G3 := hide (keepB b3 G2)
        have K3 := hide (K2.trans1 (keptB b3))
        have HW3 : Hid (w2.alloc (.cells #[.string P, .string R] 68) = W3) := hW3.symm
        have c0 : W3.cell? ⟨w2.heap.size, 0, none⟩ = some (.string P) := by simp [World.cell?, q3]
        have c1 : W3.cell? ⟨w2.heap.size, 1, none⟩ = some (.string R) := by simp [World.cell?, q3]
        have hlt3 : w2.heap.size < W3.heap.size := lt_of_some q3
        by_cases hcd : cd = 0
        · subst hcd
          have HS := hide (HST.out (by rw [I0.out]; exact h64) rfl)
          obtain ⟨W4, hW4⟩ : ∃ W4, W4 = W3.alloc (.cells #[.string P, .string R] 68) := ⟨_, rfl⟩
          have b4 : Below W3.heap.size W3 W4 := by rw [hW4]; exact (Below.refl _ _).alloc (Nat.le_refl _) _
          have q4 : W4.heap[W3.heap.size]? = some (.cells #[.string P, .string R] 68) := by rw [hW4]; exact alloc_new _ _
          have hwz : w.heap.size ≤ W4.heap.size := Nat.le_trans K3.out.size b4.size
          obtain ⟨v5, w5, hap, o5, b5, k5⟩ := own_appF (O3.below b4) ⟨W3.heap.size, 0, none⟩ 1 1 [(p, q)] rfl (fun j u hu => by
            rw [add_none, Nat.zero_add]
            simp only [fcs] at hu
            rw [← HPQ.out.1, ← HPQ.out.2] at hu
            simp only [World.cell?, q4]
            simpa using hu) (by rw [I0.out]; omega) hwz
          have HAP := hide hap
          have G5 : Hid (w5.heap[G]? = some (.cells (rdC T (a' + L + 2)) 104)) := by
            have g4 := keepB b4 G3.out
            have := k5 G (lt_of_some g4) (fun e => by
              obtain ⟨hw, _⟩ := (O3.below b4).block e
              have := HGL.out; omega)
            exact this.trans g4
          have K5 : Hid (Kept G G w w5) := by
            have k4 := K3.out.trans1 (keptB b4)
            exact ⟨b5.os.trans k4.os, b5.tape.trans k4.tape, b5.output.trans k4.output, Nat.le_trans k4.size b5.size, fun i hi h1 h2 => (b5.block i hi).trans (k4.block i hi h1 h2)⟩
          have HW4 : Hid (W3.alloc (.cells #[.string P, .string R] 68) = W4) := hW4.symm
          have HB5 : Hid (okB (acc ++ [(p, q)])) := fun f hf => by
            simp at hf
            rcases hf with hf | rfl
            · exact I7.out f hf
            · exact HFB.out
          obtain ⟨ad5, cap5, hv5, s5, _⟩ := o5.src HB5.out
          have HO5 := hide o5
          rw [show (acc ++ [(p, q)]).length = n + 1 by simp [I0.out]] at hv5
          subst hv5
          clear h2 O2 G2 K2 hW3 b3 q3 O3 hW4 b4 q4 hap o5 b5 k5 s5 hlt3 HST HE1 HE2 HRF hwz
          go_wp2_with (first | (rw [HW3.out]) | (rw [HW4.out]; refine wpList_app_run _ rfl _ _ 32 32 rfl _ _ rfl rfl HAP.out ?_))
          go_roundg g
          case measure => omega
          case rel => exact ⟨k + 1, ad5, cap5, n + 1, a' + L + 2, by omega, rfl, by omega, ha2, acc ++ [(p, q)], by simp [I0.out], HS.out, HNX.out.1, HNX.out.2, G5.out, HO5.out, K5.out, HB5.out⟩
        · have qcd : ((cd : Int) != 0) = true := by simp; omega
          have qcd2 : ((cd : Int) == 0) = false := by simp; omega
          have HF := hide (HE2.out (by rw [I0.out]; exact h64) hcd)
          have HRE := hide (refuseH_er a' cd W3)
          clear h2 O2 G2 K2 hW3 b3 q3 O3 hcd HST HE1 HE2 HRF
          go_wp2_with (first | (rw [HW3.out]))
          refine HRE.out.mono ?_
          rintro e w4 ⟨v4, rfl, h1, h2⟩
          have H1 := hide h1
          have K4 := hide (K3.out.trans1 (keptB h2))
          clear h1 h2 HRE
          go_wp2_with fail
          rw [Exit.noGoto_ret]
          go_ret2
          exact ⟨_, _, rfl, by rw [HF.out]; exact OwnF.nilS _ _, by rw [HF.out]; exact H1.out, K4.out⟩
end Go.Proofs.YtccoddmdlbdfjaaGreatDoor
