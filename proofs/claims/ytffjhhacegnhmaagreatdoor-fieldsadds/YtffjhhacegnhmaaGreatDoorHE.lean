/-
  Fields in memory, and the reader of lines of package head: next; conditions as each theorem has them.
-/
import Derived.Test.YtffjhhacegnhmaaGreatDoorHC
set_option linter.unusedSimpArgs false
set_option linter.unusedVariables false
namespace Go.Proofs.YtffjhhacegnhmaaGreatDoor
open Go.RowKit

/-- Fields as they lie in memory. -/
def fcs : List Fd → List Value
  | [] => []
  | f :: r => .string (strN f.1) :: .string (strN f.2) :: fcs r
theorem fcs_len : ∀ fs, (fcs fs).length = 2 * fs.length
  | [] => rfl
  | f :: r => by simp [fcs, fcs_len r]; omega
theorem fcs_app : ∀ (a b : List Fd), fcs (a ++ b) = fcs a ++ fcs b
  | [], b => rfl
  | f :: a, b => by simp [fcs, fcs_app a b]
theorem fcs_get : ∀ (fs : List Fd) (i : Nat), i < fs.length → (fcs fs)[2 * i]? = some (.string (strN (fs.getD i ([], [])).1)) ∧ (fcs fs)[2 * i + 1]? = some (.string (strN (fs.getD i ([], [])).2))
  | [], i, h => by simp at h
  | f :: r, 0, h => by simp [fcs]
  | f :: r, i + 1, h => by
    have ih := fcs_get r i (by simpa using h)
    rw [show 2 * (i + 1) = 2 * i + 1 + 1 by omega, show 2 * i + 1 + 1 + 1 = (2 * i + 1) + 1 + 1 by omega]
    simpa [fcs] using ih
theorem fcs_one (fs : List Fd) : ∀ u ∈ fcs fs, u.oneCell' = true := by
  induction fs with
  | nil => simp [fcs]
  | cons f r ih =>
    intro u hu
    simp [fcs] at hu
    rcases hu with rfl | rfl | hu
    · rfl
    · rfl
    · exact ih u hu
def okB (fs : List Fd) : Prop := ∀ f ∈ fs, (∀ x ∈ f.1, x < 256) ∧ ∀ x ∈ f.2, x < 256
/-- A slice of fields wherever it lies. -/
structure SrcF (w : World) (a : Option Addr) (len cap : Nat) (fs : List Fd) : Prop where
  hlen : fs.length = len
  hcap : len ≤ cap
  hmax : cap ≤ maxLen
  nil : a = none → cap = 0
  lies : 0 < len → ∃ b o, a = some ⟨b, o, none⟩ ∧ b < w.heap.size ∧ ∀ j u, (fcs fs)[j]? = some u → w.cell? ⟨b, o + j, none⟩ = some u
  byte : okB fs
theorem SrcF.keep {w w' : World} {a : Option Addr} {len cap : Nat} {fs : List Fd} (h : SrcF w a len cap fs) (hk : 0 < len → ∀ b o, a = some ⟨b, o, none⟩ → w'.heap[b]? = w.heap[b]?) (hs : w.heap.size ≤ w'.heap.size) : SrcF w' a len cap fs := by
  refine ⟨h.hlen, h.hcap, h.hmax, h.nil, fun h0 => ?_, h.byte⟩
  obtain ⟨b, o, e, hb, hc⟩ := h.lies h0
  exact ⟨b, o, e, by omega, fun j u hu => (World.cell?_of_block (hk h0 b o e)).trans (hc j u hu)⟩
theorem SrcF.lt {w : World} {a : Option Addr} {len cap : Nat} {fs : List Fd} (h : SrcF w a len cap fs) (h0 : 0 < len) {b o : Nat} (e : a = some ⟨b, o, none⟩) : b < w.heap.size := by
  obtain ⟨b', o', e', hb, hc⟩ := h.lies h0
  rw [e] at e'
  simp only [Option.some.injEq, Addr.mk.injEq, and_true] at e'
  omega
theorem SrcF.below {w w' : World} {a : Option Addr} {len cap : Nat} {fs : List Fd} (h : SrcF w a len cap fs) (k : Below w.heap.size w w') : SrcF w' a len cap fs :=
  h.keep (fun h0 b o e => k.block b (h.lt h0 e)) k.size
theorem SrcF.nilS (w : World) : SrcF w none 0 0 [] := ⟨rfl, Nat.le_refl _, Nat.zero_le _, fun _ => rfl, fun h => by omega, by intro f hf; simp at hf⟩
theorem SrcF.at_ {w : World} {a : Option Addr} {len cap : Nat} {fs : List Fd} (h : SrcF w a len cap fs) {i : Nat} (hi : i < len) : ∃ b o, a = some ⟨b, o, none⟩ ∧ w.cell? ⟨b, o + 2 * i, none⟩ = some (.string (strN (fs.getD i ([], [])).1)) ∧ w.cell? ⟨b, o + 2 * i + 1, none⟩ = some (.string (strN (fs.getD i ([], [])).2)) := by
  obtain ⟨b, o, e, hb, hc⟩ := h.lies (by omega)
  obtain ⟨g1, g2⟩ := fcs_get fs i (by rw [h.hlen]; exact hi)
  exact ⟨b, o, e, hc _ _ g1, by have := hc _ _ g2; rwa [← Nat.add_assoc] at this⟩
/-- v is the call's own slice of fields, in a block from B on. -/
def OwnF (w : World) (B : Nat) (v : Value) (fs : List Fd) : Prop := w.ownsRow B 43 2 v fs.length (fcs fs)
theorem OwnF.nilS (w : World) (B : Nat) : OwnF w B (.slice none 0 0) [] := ⟨rfl, Or.inl ⟨rfl, rfl⟩⟩
theorem OwnF.keep {w w' : World} {B : Nat} {v : Value} {fs : List Fd} (h : OwnF w B v fs) (k : ∀ g, v.ownBlock = some g → w'.heap[g]? = w.heap[g]?) : OwnF w' B v fs := by
  refine ⟨h.1, ?_⟩
  rcases h.2 with h0 | ⟨x, cap, cur, hv, hx, hh, hrest⟩
  · exact Or.inl h0
  · exact Or.inr ⟨x, cap, cur, hv, hx, (k x (by rw [hv]; rfl)).trans hh, hrest⟩
theorem OwnF.block {w : World} {B : Nat} {v : Value} {fs : List Fd} (h : OwnF w B v fs) {g : Nat} (hg : v.ownBlock = some g) : B ≤ g ∧ ∃ cur, w.heap[g]? = some (.cells cur 43) := by
  rcases h.2 with ⟨rfl, _⟩ | ⟨x, cap, cur, rfl, hx, hh, hrest⟩
  · cases hg
  · simp [Value.ownBlock] at hg
    subst hg
    exact ⟨hx, cur, hh⟩
theorem OwnF.below {w w' : World} {B : Nat} {v : Value} {fs : List Fd} (h : OwnF w B v fs) (k : Below w.heap.size w w') : OwnF w' B v fs :=
  h.keep fun g hg => by
    obtain ⟨_, cur, hh⟩ := h.block hg
    exact k.block g (lt_of_some hh)
theorem OwnF.src {w : World} {B : Nat} {v : Value} {fs : List Fd} (h : OwnF w B v fs) (hb : okB fs) : ∃ a cap, v = .slice a fs.length cap ∧ SrcF w a fs.length cap fs ∧ (∀ b o, a = some ⟨b, o, none⟩ → B ≤ b) := by
  rcases h.2 with ⟨rfl, h0⟩ | ⟨g, cap, cur, rfl, hx, hh, hc, hm, hs, ht⟩
  · have : fs = [] := List.length_eq_zero_iff.1 h0
    subst this
    exact ⟨none, 0, rfl, SrcF.nilS w, fun b o e => by cases e⟩
  · refine ⟨_, cap, rfl, ⟨rfl, hc, hm, (fun e => by cases e), fun _ => ⟨g, 0, rfl, lt_of_some hh, fun j u hu => ?_⟩, hb⟩, fun b o e => by cases e; exact hx⟩
    have hj := (List.getElem?_eq_some_iff.1 hu).1
    rw [fcs_len] at hj
    have : cur.toList[j]? = some u := by rw [← hu, ← ht, List.getElem?_take, if_pos (by omega)]
    rw [Nat.zero_add]
    simp only [World.cell?, hh]
    simpa using this
theorem inf76 : ∃ i, Tryz.prog.info? 43 = some i ∧ i.zero = some (.agg #[.string ⟨#[]⟩, .string ⟨#[]⟩]) ∧ i.size = 2 ∧ i.bytes = 32 := info_parts (by kernel_rfl)
/-- Fields that are appended. -/
theorem own_appF {w : World} {B : Nat} {v : Value} {fs : List Fd} (hown : OwnF w B v fs) (a : Addr) (m c : Nat) (gs : List Fd) (hl : gs.length = m) (hnews : ∀ j u, (fcs gs)[j]? = some u → w.cell? (a.add j) = some u)
    (hlen : (fs.length + m) * 32 ≤ 140737488355328) (hB : B ≤ w.heap.size) :
    ∃ v' w', (Builtin.append_ #[22, 22] 22 #[v, .slice (some a) m c]).run Tryz.prog w = .ok v' w' ∧ OwnF w' B v' (fs ++ gs) ∧ Below B w w' ∧ (∀ k, k < w.heap.size → v.ownBlock ≠ some k → w'.heap[k]? = w.heap[k]?) := by
  obtain ⟨i, hi, hz, hsz, hby⟩ := inf76
  obtain ⟨v', w', hr, ho, hg, _⟩ := run_append_own (P := Tryz.prog) w B 22 22 43 i (.agg #[.string ⟨#[]⟩, .string ⟨#[]⟩]) 2 32 Tryz.underlying22 hi hz hsz hby rfl (by omega) v fs.length (fcs fs) hown a m c (fcs gs) (by rw [fcs_len, hl]; omega) hnews (fcs_one _) (by unfold maxLen; omega) hlen hB
  refine ⟨v', w', hr, ?_, (Below.refl B w).grown hg hB (fun k hk => (hown.block hk).1), fun k hk hne => hg.block k hk (fun e => hne e.symm)⟩
  unfold OwnF
  rw [List.length_append, hl, fcs_app]
  exact ho

theorem idx_pair : ∀ l : List UInt8, Lib.index l [13, 10] = match pair (l.map UInt8.toNat) with | none => -1 | some k => (k : Int)
  | [] => rfl
  | c :: r => by
    have ih := idx_pair r
    rw [Lib.index, List.map_cons, pair]
    have hh : (([13, 10] : List UInt8).isPrefixOf (c :: r) = true) ↔ (c.toNat = 13 ∧ (r.map UInt8.toNat).head? = some 10) := by
      cases r with
      | nil => simp [List.isPrefixOf]
      | cons d r =>
        simp only [List.isPrefixOf, Bool.and_eq_true, beq_iff_eq, List.map_cons, List.head?_cons, Option.some.injEq, Bool.and_true]
        constructor
        · rintro ⟨h1, h2⟩
          rw [← h1, ← h2]; exact ⟨rfl, rfl⟩
        · rintro ⟨h1, h2⟩
          exact ⟨(UInt8.toNat_inj.1 (by simpa using h1)).symm, (UInt8.toNat_inj.1 (by simpa using h2)).symm⟩
    by_cases h : c.toNat = 13 ∧ (r.map UInt8.toNat).head? = some 10
    · rw [if_pos h, if_pos (hh.2 h)]; rfl
    · rw [if_neg h, if_neg (fun e => h (hh.1 e)), ih]
      cases pair (r.map UInt8.toNat) with
      | none => simp
      | some k => simp
/-- A reader of lines in memory. -/
def rdC (T : ByteArray) (a : Nat) : Array Value := #[.string T, .int .i64 (a : Nat)]
end Go.Proofs.YtffjhhacegnhmaaGreatDoor
