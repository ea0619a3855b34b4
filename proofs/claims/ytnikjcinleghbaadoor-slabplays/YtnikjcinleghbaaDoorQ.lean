/-
  The calls of the slab and of the reference slab, each with one ending whatever its arguments; conditions as each theorem has them.
-/
import Derived.Test.YtnikjcinleghbaaDoorP
set_option linter.unusedSimpArgs false
set_option linter.unusedVariables false
namespace Go.Proofs.YtnikjcinleghbaaDoor
open Go.RowKit

def gk (hs : List Bool) : Nat := if lst hs < hs.length then lst hs else 0
def gcode (hs : List Bool) : Int := if lst hs < hs.length then 0 else 4
def ghs (hs : List Bool) : List Bool := if lst hs < hs.length then hs.set (lst hs) true else hs

theorem get_any (r g bl sz : Nat) (hs : List Bool) (zs : List Int) (w : World) (h : IsSlab w r g bl sz hs zs) :
    Calls Tryd.prog 11 #[.pointer (some ⟨r, 0, none⟩)] w fun e w' => e = .returned (.tuple #[.int .i64 (gk hs : Nat), .int .i64 (gcode hs)]) ∧ IsSlab w' r g bl sz (ghs hs) zs ∧ Kept r r w w' := by
  have hl := h.len
  have hle := lst_le hs
  unfold gk gcode ghs
  by_cases hlt : lst hs < hs.length
  · simp only [if_pos hlt]
    exact get_ok r g bl sz hs zs (lst hs) w h rfl (by omega)
  · simp only [if_neg hlt]
    refine (get_full r g bl sz hs zs w h (by omega)).mono ?_
    rintro e w' ⟨rfl, n, rfl⟩
    exact ⟨rfl, h.drewN n, Kept.ofDraw w n⟩

theorem refget_any (y bl sz : Nat) (hs : List Bool) (zs : List Int) (M : Nat → Prop) (w : World) (h : RefM w y bl sz hs zs M) (hl : hs.length = bl) (hz : ∀ k, k < bl → hs.getD k true = false → ∀ i, i < sz → zs.getD (k * sz + i) 0 = 0) :
    Calls Tryd.prog 12 #[.pointer (some ⟨y, 0, none⟩)] w fun e w' => e = .returned (.tuple #[.int .i64 (gk hs : Nat), .int .i64 (gcode hs)]) ∧ (∃ M', RefM w' y bl sz (ghs hs) zs M' ∧ ∀ j, M' j → M j ∨ w.heap.size ≤ j) ∧ KeptM M w w' := by
  have hle := lst_le hs
  unfold gk gcode ghs
  by_cases hlt : lst hs < hs.length
  · simp only [if_pos hlt]
    exact refget_ok y bl sz hs zs M (lst hs) w h rfl (by omega) (hz _ (by omega) (lst_free hs hlt))
  · simp only [if_neg hlt]
    refine (refget_full y bl sz hs zs M w h (by omega)).mono ?_
    rintro e w' ⟨rfl, rfl⟩
    exact ⟨rfl, ⟨M, h, fun j hj => Or.inl hj⟩, KeptM.refl _ _⟩

theorem refwrite_any (y bl sz : Nat) (hs : List Bool) (zs : List Int) (M : Nat → Prop) (b a : Int) (ad : Option Addr) (len cap : Nat) (bs : List Int) (w : World) (h : RefM w y bl sz hs zs M) (hl : hs.length = bl) (hS : Src w ad len cap bs) (hap : ∀ b o, ad = some ⟨b, o, none⟩ → 0 < len → ¬ M b) :
    Calls Tryd.prog 17 #[.pointer (some ⟨y, 0, none⟩), .int .i64 b, .int .i64 a, .slice ad len cap] w fun e w' => e = .returned (.int .i64 (wcode hs sz b a len)) ∧ RefM w' y bl sz hs (wzs hs sz zs b a bs) M ∧ KeptM M w w' := by
  have hlm : len ≤ maxLen := Nat.le_trans hS.hcap hS.hmax
  unfold wcode wzs
  rw [hS.hlen]
  cases hb : heldAt hs b with
  | false =>
    refine (refwrite_none y bl sz hs zs M b a _ w h hb).mono ?_
    rintro e w' ⟨rfl, rfl⟩
    exact ⟨rfl, h, KeptM.refl _ _⟩
  | true =>
    cases hi : inAt sz a len with
    | false =>
      refine (refwrite_arg y bl sz hs zs M b a ad len cap w h hb hlm hi).mono ?_
      rintro e w' ⟨rfl, rfl⟩
      exact ⟨rfl, h, KeptM.refl _ _⟩
    | true =>
      obtain ⟨k, rfl, hk, hk2⟩ := heldAt_true hb
      obtain ⟨o, m, rfl, hm, ho⟩ := inAt_true hi
      obtain rfl : len = m := by omega
      exact refwrite_ok y bl sz hs zs M k o ad len cap bs w h (by omega) hk2 hS ho hap

def rcode (hs : List Bool) (sz : Nat) (b a n : Int) : Int := if heldAt hs b then (if inAt sz a n then 0 else 2) else 5
def rbs (hs : List Bool) (sz : Nat) (zs : List Int) (b a n : Int) : List Int := if heldAt hs b && inAt sz a n then (zs.drop (b.toNat * sz + a.toNat)).take n.toNat else []

/-- A slice of bytes that nobody else has: nil, or at the head of a new block. -/
def OwnN (w : World) (B : Nat) (v : Value) (l : List Int) : Prop := (v = .slice none 0 0 ∧ l = []) ∨ ∃ h, OwnAt w h v l ∧ B ≤ h

theorem own_of_row {w : World} {h m : Nat} {l : List Int} (hg : w.heap[h]? = some (.cells (vals l).toArray 5)) (hl : l.length = m) (hm : m ≤ 65536) : OwnAt w h (.slice (some ⟨h, 0, none⟩) m m) l :=
  ⟨m, _, by rw [hl], hg, by omega, by unfold maxLen; omega, by simp [vals, hl], by rw [← vals_length l]; simp⟩

theorem read_any (r g bl sz : Nat) (hs : List Bool) (zs : List Int) (b a n : Int) (w : World) (h : IsSlab w r g bl sz hs zs) (hn : n < 9223372036854775808) :
    Calls Tryd.prog 19 #[.pointer (some ⟨r, 0, none⟩), .int .i64 b, .int .i64 a, .int .i64 n] w fun e w' => ∃ v, e = .returned (.tuple #[v, .int .i64 (rcode hs sz b a n)]) ∧ OwnN w' w.heap.size v (rbs hs sz zs b a n) ∧ Below w.heap.size w w' := by
  unfold rcode rbs
  cases hb : heldAt hs b with
  | false =>
    refine (read_none r g bl sz hs zs b a n w h hb).mono ?_
    rintro e w' ⟨rfl, m, rfl⟩
    exact ⟨_, rfl, Or.inl ⟨rfl, rfl⟩, below_drewN (Below.refl _ _) m⟩
  | true =>
    cases hi : inAt sz a n with
    | false =>
      refine (read_arg r g bl sz hs zs b a n w h hb hn hi).mono ?_
      rintro e w' ⟨rfl, m, rfl⟩
      exact ⟨_, rfl, Or.inl ⟨rfl, rfl⟩, below_drewN (Below.refl _ _) m⟩
    | true =>
      obtain ⟨k, rfl, hk, hk2⟩ := heldAt_true hb
      obtain ⟨o, m, rfl, rfl, ho⟩ := inAt_true hi
      have hkb : k < bl := by rw [← h.len]; exact hk
      have hms := h.ms
      have hlen : ((zs.drop (k * sz + o)).take m).length = m := by
        have := piece_fits k bl sz hkb
        have := h.zlen
        rw [List.length_take, List.length_drop]; omega
      refine (read_ok r g bl sz hs zs k o m w h hkb hk2 ho).mono ?_
      rintro e w' ⟨rfl, hg, hbel⟩
      exact ⟨_, rfl, Or.inr ⟨w.heap.size, own_of_row hg hlen (by omega), Nat.le_refl _⟩, hbel⟩

theorem refread_any (y bl sz : Nat) (hs : List Bool) (zs : List Int) (M : Nat → Prop) (b a n : Int) (w : World) (h : RefM w y bl sz hs zs M) (hl : hs.length = bl) (hn : n < 9223372036854775808) :
    Calls Tryd.prog 20 #[.pointer (some ⟨y, 0, none⟩), .int .i64 b, .int .i64 a, .int .i64 n] w fun e w' => ∃ v, e = .returned (.tuple #[v, .int .i64 (rcode hs sz b a n)]) ∧ OwnN w' w.heap.size v (rbs hs sz zs b a n) ∧ Below w.heap.size w w' := by
  unfold rcode rbs
  cases hb : heldAt hs b with
  | false =>
    refine (refread_none y bl sz hs zs M b a n w h hb).mono ?_
    rintro e w' ⟨rfl, rfl⟩
    exact ⟨_, rfl, Or.inl ⟨rfl, rfl⟩, Below.refl _ _⟩
  | true =>
    cases hi : inAt sz a n with
    | false =>
      refine (refread_arg y bl sz hs zs M b a n w h hb hn hi).mono ?_
      rintro e w' ⟨rfl, rfl⟩
      exact ⟨_, rfl, Or.inl ⟨rfl, rfl⟩, Below.refl _ _⟩
    | true =>
      obtain ⟨k, rfl, hk, hk2⟩ := heldAt_true hb
      obtain ⟨o, m, rfl, rfl, ho⟩ := inAt_true hi
      refine (refread_ok y bl sz hs zs M k o m w h (by omega) hk2 ho).mono ?_
      rintro e w' ⟨h', v', rfl, hown, hle, hbel⟩
      exact ⟨_, rfl, Or.inr ⟨h', hown, hle⟩, hbel⟩

theorem rbs_byte {hs : List Bool} {sz : Nat} {zs : List Int} {b a n : Int} (h : ∀ x ∈ zs, 0 ≤ x ∧ x < 256) : ∀ x ∈ rbs hs sz zs b a n, 0 ≤ x ∧ x < 256 := by
  intro x hx
  unfold rbs at hx
  split at hx
  · exact h x (List.mem_of_mem_drop (List.mem_of_mem_take hx))
  · simp at hx

/-- What such a slice looks like: it can be read and written. -/
theorem OwnN.form {w : World} {B : Nat} {v : Value} {l : List Int} (o : OwnN w B v l) (hb : ∀ x ∈ l, 0 ≤ x ∧ x < 256) : ∃ ad c, v = .slice ad l.length c ∧ Src w ad l.length c l ∧ (∀ b o, ad = some ⟨b, o, none⟩ → B ≤ b ∧ b < w.heap.size) ∧ (l.length = 0 ∨ ∃ h cur, ad = some ⟨h, 0, none⟩ ∧ B ≤ h ∧ w.heap[h]? = some (.cells cur 5 (0, 0)) ∧ l.length ≤ cur.size) := by
  rcases o with ⟨rfl, rfl⟩ | ⟨h, o, hle⟩
  · exact ⟨none, 0, rfl, ⟨rfl, Nat.le_refl _, Nat.zero_le _, fun _ => rfl, fun h => by simp at h, by simp⟩, fun b o e => (by cases e), Or.inl rfl⟩
  · obtain ⟨cap, e, hs⟩ := o.src hb
    have hlt := o.lt
    obtain ⟨cap', cur, e', h2, h3, h4, h5, h6⟩ := o
    refine ⟨_, cap, e, hs, fun b o e => by simp at e; omega, Or.inr ⟨h, cur, rfl, hle, h2, by omega⟩⟩

theorem rows_put {hs : List Bool} {zs : List Int} {bl sz : Nat} {b : Int} (hl : hs.length = bl) (hz : zs.length = bl * sz) : ∀ k, k < bl → (phs hs b).getD k true = true → row (pzs hs sz zs b) sz k = row zs sz k := by
  intro k hk hh
  unfold phs at hh
  unfold pzs
  cases hb : heldAt hs b with
  | false => simp
  | true =>
    obtain ⟨q, rfl, hq, hq2⟩ := heldAt_true hb
    simp only [hb, if_true] at hh ⊢
    have hqk : k ≠ q := by
      rintro rfl
      simp only [Int.toNat_natCast] at hh
      rw [getDb_set _ _ _ _ hq, if_pos rfl] at hh
      cases hh
    have hpf := piece_fits q bl sz (by omega)
    have hlz := zeros_length sz
    simp only [Int.toNat_natCast]
    have e0 : q * sz = q * sz + 0 := rfl
    refine row_ext hz ?_ hk (fun i hi => ?_)
    · rw [length_splice _ _ _ (by rw [hlz]; omega)]; exact hz
    · rw [e0]
      exact other_block hqk (by rw [hlz]; omega) (by rw [hlz]; omega) hi

end Go.Proofs.YtnikjcinleghbaaDoor
