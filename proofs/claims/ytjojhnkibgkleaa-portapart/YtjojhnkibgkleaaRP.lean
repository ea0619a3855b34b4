/-
  The reference ring (a list of bytes): what its New, Put, Peek and Take, and the base package's Bytes, do in memory; conditions as each theorem has them.
-/
import Derived.Test.YtjojhnkibgkleaaRL
import Derived.Deep.RegionHeld3
set_option linter.unusedSimpArgs false
set_option linter.unusedVariables false
set_option maxRecDepth 8000
namespace Go.Proofs.Ytjojhnkibgkleaa
open Go.RowKit

/-- v is nil without bytes, or the call's own slice of the bytes l at the head of block h. -/
def OwnV (w : World) (h : Nat) (v : Value) (l : List Int) : Prop := (v = .slice none 0 0 ∧ l = []) ∨ OwnAt w h v l

theorem OwnV.keep {w w' : World} {h : Nat} {v : Value} {l : List Int} (o : OwnV w h v l) (e : h < w.heap.size → w'.heap[h]? = w.heap[h]?) : OwnV w' h v l := by
  rcases o with o | o
  · exact Or.inl o
  · exact Or.inr (o.keep (e o.lt))

theorem OwnV.src {w : World} {h : Nat} {v : Value} {l : List Int} (o : OwnV w h v l) (hb : ∀ x ∈ l, 0 ≤ x ∧ x < 256) : ∃ a cap, v = .slice a l.length cap ∧ Src w a l.length cap l ∧ ∀ b o, a = some ⟨b, o, none⟩ → b = h := by
  rcases o with ⟨rfl, rfl⟩ | o
  · exact ⟨none, 0, rfl, ⟨rfl, Nat.le_refl _, Nat.zero_le _, fun _ => rfl, fun h => by simp at h, by simp⟩, fun b o e => by cases e⟩
  · obtain ⟨cap, e, hs⟩ := o.src hb
    exact ⟨_, cap, e, hs, fun b o e => by simp at e; omega⟩

/-- What it looks like. -/
theorem OwnV.form {w : World} {h : Nat} {v : Value} {l : List Int} (o : OwnV w h v l) : ∃ a cap, v = .slice a l.length cap ∧ l.length ≤ cap ∧ (∀ i, i < l.length → a = some ⟨h, 0, none⟩ ∧ w.cell? ⟨h, i, none⟩ = some (.int .u8 (l.getD i 0))) := by
  rcases o with ⟨rfl, rfl⟩ | ⟨cap, cur, rfl, h2, h3, h4, h5, h6⟩
  · exact ⟨none, 0, rfl, Nat.le_refl _, fun i hi => by simp at hi⟩
  · refine ⟨_, cap, rfl, h3, fun i hi => ⟨rfl, ?_⟩⟩
    have e1 : cur[i]? = (vals l)[i]? := by rw [← h6, List.getElem?_take, if_pos hi]; simp
    simp only [World.cell?, h2]
    simp [e1, vals, List.getD, hi]

theorem run_app_v {w : World} {h : Nat} {v : Value} {l : List Int} (ty : TypeId) (o : OwnV w h v l) {a : Option Addr} {m c : Nat} {bs : List Int} (hs : Src w a m c bs) (hlen : l.length + m ≤ 140737488355328) :
    ∃ v' w' h', (Builtin.append_ #[45, 45] ty #[v, .slice a m c]).run Try.prog w = .ok v' w' ∧ OwnV w' h' v' (l ++ bs) ∧ (h' = h ∨ h' = w.heap.size) ∧ Kept h h w w' := by
  rcases o with ⟨rfl, rfl⟩ | o
  · obtain ⟨i, hi, hz, hsz, hby⟩ := info5p
    have hown : w.ownsRow 0 5 1 (.slice none 0 0) ([] : List Int).length (vals []) := ⟨by simp [vals], Or.inl ⟨rfl, rfl⟩⟩
    cases a with
    | none =>
      have hc := hs.nil rfl
      have := hs.hcap
      obtain rfl : m = 0 := by omega
      obtain rfl : c = 0 := hc
      obtain rfl : bs = [] := List.eq_nil_of_length_eq_zero hs.hlen
      exact ⟨_, w, h, run_append_owned_none (P := Try.prog) w 0 45 ty 5 i 1 Try.underlying45 hi _ _ _ hown, Or.inl ⟨rfl, rfl⟩, Or.inl rfl, Kept.refl _ _ _⟩
    | some x =>
      obtain ⟨v', w', hr, ho, hg, hnil, hat⟩ := run_append_own_at (P := Try.prog) w 0 45 ty 5 i (.int .u8 0) 1 1 Try.underlying45 hi hz hsz hby rfl (by omega) _ _ _ hown x m c (vals bs) (by rw [vals_length, hs.hlen]; omega)
        (fun j u hu => by
          obtain ⟨hj, rfl⟩ := vals_at _ _ _ hu
          rw [hs.hlen] at hj
          obtain ⟨b, o, e, hcell⟩ := hs.lies (by omega)
          simp at e
          subst e
          rw [add_none]
          exact hcell j hj) (vals_one _) (by unfold maxLen; simp at hlen ⊢; omega) (by simp at hlen ⊢; omega) (Nat.zero_le _)
      have hk : Kept h h w w' := ⟨hg.os, hg.tape, hg.output, hg.size, fun k hk e1 e2 => hg.block k hk (by simp [Value.ownBlock])⟩
      rcases ho.2 with ⟨hv, h0⟩ | ⟨h', cap, cur, hv, _, hh, h1, h2, h3, h4⟩
      · simp at h0
        subst h0
        obtain rfl : bs = [] := List.eq_nil_of_length_eq_zero hs.hlen
        subst hv
        exact ⟨_, w', h, hr, Or.inl ⟨rfl, rfl⟩, Or.inl rfl, hk⟩
      · subst hv
        refine ⟨_, w', h', hr, Or.inr ⟨cap, cur, by simp [hs.hlen], hh, by simpa [hs.hlen] using h1, h2, by omega, by simpa [vals, hs.hlen] using h4⟩, ?_, hk⟩
        simp [Value.ownBlock] at hat
        exact Or.inr hat
  · obtain ⟨v', w', h', hr, ho, hw, hk⟩ := run_app_at ty o hs hlen
    exact ⟨v', w', h', hr, Or.inr ho, hw, hk⟩

/-- The reference ring in memory. -/
def rhd (n : Nat) (v : Value) (inn out : Int) : Obj := .cells #[.int .i64 n, v, .int .i64 inn, .int .i64 out] 108

theorem rhd_cells {w : World} {y n : Nat} {v : Value} {inn out : Int} (h : w.heap[y]? = some (rhd n v inn out)) :
    w.cell? ⟨y, 0, none⟩ = some (.int .i64 n) ∧ w.cell? ⟨y, 1, none⟩ = some v ∧ w.cell? ⟨y, 2, none⟩ = some (.int .i64 inn) ∧ w.cell? ⟨y, 3, none⟩ = some (.int .i64 out) := by
  unfold rhd at h
  simp [World.cell?, h]

theorem rhd_frozen {w : World} {y n : Nat} {v : Value} {inn out : Int} (h : w.heap[y]? = some (rhd n v inn out)) (o : Nat) : w.frozen? ⟨y, o, none⟩ = false := by
  unfold rhd at h
  simp [World.frozen?, h]

structure IsRef (w : World) (y n : Nat) (inn out : Int) (l : List Int) (h : Nat) (v : Value) : Prop where
  head : w.heap[y]? = some (rhd n v inn out)
  own : OwnV w h v l
  ne : h ≠ y
  byte : ∀ x ∈ l, 0 ≤ x ∧ x < 256
  i0 : 0 ≤ inn
  i1 : inn < 4294967296
  o0 : 0 ≤ out
  o1 : out < 4294967296
  fits : l.length ≤ n
  max : n ≤ 65536

set_option maxHeartbeats 400000 in
theorem refnew_bad (n : Int) (w : World) (h : n < 0 ∨ 65536 < n) :
    Calls Try.prog 74 #[.int .i64 n] w fun e w' => e = .returned (.tuple #[.pointer none, .int .i64 2]) ∧ w = w' := by
  rcases h with h | h
  · go_enter Try.func74, Try.ntmps74
    go_wp2
    go_ret2
    exact ⟨rfl, rfl⟩
  · have h' : ¬ n < 0 := by omega
    go_enter Try.func74, Try.ntmps74
    go_wp2
    go_ret2
    exact ⟨rfl, rfl⟩

set_option maxHeartbeats 400000 in
theorem refnew_good (n : Nat) (w : World) (h : n ≤ 65536) :
    Calls Try.prog 74 #[.int .i64 n] w fun e w' => e = .returned (.tuple #[.pointer (some ⟨w.heap.size, 0, none⟩), .int .i64 0]) ∧ IsRef w' w.heap.size n 0 0 [] (w.heap.size + 1) (.slice none 0 0) ∧ Below w.heap.size w w' ∧ w'.heap.size = w.heap.size + 1 := by
  go_enter Try.func74, Try.ntmps74
  go_wp2
  go_ret2
  exact ⟨rfl, ⟨alloc_new w _, Or.inl ⟨rfl, rfl⟩, by omega, by simp, by omega, by omega, by omega, by omega, by simp, h⟩, (Below.refl w.heap.size w).alloc (Nat.le_refl _) _, by simp⟩

set_option maxHeartbeats 1000000 in
theorem refpeek (y n : Nat) (inn out k : Int) (l : List Int) (h : Nat) (v : Value) (w : World) (hr : IsRef w y n inn out l h v) :
    Calls Try.prog 88 #[.pointer (some ⟨y, 0, none⟩), .int .i64 k] w fun e w' => ∃ h' v', e = .returned v' ∧ OwnAt w' h' v' (l.take (min k.toNat l.length)) ∧ w.heap.size ≤ h' ∧ Below w.heap.size w w' := by
  have hmx := hr.max
  have hft := hr.fits
  obtain ⟨c0, c1, c2, c3⟩ := rhd_cells hr.head
  have hyl := lt_of_some hr.head
  obtain ⟨a, cap, e, hcap, hcl⟩ := hr.own.form
  subst e
  have HC := hide hcl
  have HY := hide hr.byte
  have HX : Hid (∀ i, i < l.length → h < w.heap.size) := fun i hi => by simpa using lt_of_cell (hcl i hi).2
  clear hr hcl c0 c2 c3
  go_enter Try.func88, Try.ntmps88
  go_wp2_with fail
  go_loopw [5, 6] (fun vo i wr => ∃ (j : Nat) (ho : Nat), j ≤ min k.toNat l.length ∧ i = .int .i64 j ∧ Hid (OwnAt wr ho vo (l.take j)) ∧ w.heap.size ≤ ho ∧ Hid (Below w.heap.size w wr)) (fun _ i _ => l.length - (intOf i).toNat)
  case atStart => exact ⟨0, w.heap.size, Nat.zero_le _, rfl, own_at_new w, Nat.le_refl _, (Below.refl w.heap.size w).alloc (Nat.le_refl _) _⟩
  case round =>
    obtain ⟨j, ho, hj, rfl, HO, hho, HB⟩ := hrel
    have c1r : wr.cell? ⟨y, 1, none⟩ = some (.slice a l.length cap) := (HB.out.cell (p := ⟨y, 1, none⟩) hyl).trans c1
    have hol := HO.out.lt
    by_cases h1 : (j : Int) < k
    · by_cases h2 : j < l.length
      · obtain ⟨ea, hcj⟩ := HC.out j h2
        subst ea
        have hcr : wr.cell? ⟨h, j, none⟩ = some (.int .u8 (l.getD j 0)) := (HB.out.cell (p := ⟨h, j, none⟩) (HX.out j h2)).trans hcj
        obtain ⟨x, hx⟩ : ∃ x, x = l.getD j 0 := ⟨_, rfl⟩
        rw [← hx] at hcr
        have hS : Src (wr.alloc (.cells (vals [x]).toArray 5)) (some ⟨wr.heap.size, 0, none⟩) 1 1 [x] := src_block (alloc_new _ _) rfl (by omega) (by intro z hz; simp at hz; subst hz; rw [hx]; exact getD_byte HY.out j)
        obtain ⟨v', w', h', hrun, hown, hw, hk⟩ := run_app_at 45 (HO.out.keep (w' := wr.alloc (.cells (vals [x]).toArray 5)) (Below.heap_alloc _ _ _ hol)) hS (by simp; omega)
        have HR := hide hrun
        have hsz := HB.out.size
        have HB2 : Hid (Below w.heap.size w w') := (HB.out.alloc hsz _).trans (hk.below hho hho (by simp; omega))
        have HO2 : Hid (OwnAt w' h' v' (l.take (j + 1))) := by
          show OwnAt _ _ _ _
          have : l.take (j + 1) = l.take j ++ [x] := by
            rw [List.take_succ_eq_append_getElem h2, hx]
            simp [List.getD, h2]
          rw [this]
          exact hown
        have hh2 : w.heap.size ≤ h' := by simp at hw; omega
        have HX1 := hide hx
        clear hcj hS hrun hown hw hk hx
        go_wp2_with (at_builtin; refine wpList_app_run _ rfl _ _ _ _ rfl _ _ rfl rfl HR.out ?_)
        go_roundw
        case rel => exact ⟨j + 1, h', by omega, by go_num, HO2, hh2, HB2⟩
        case measure => simp [intOf]; omega
      · go_wp2_with fail
        go_ret
        exact ⟨ho, _, rfl, by rw [show min k.toNat l.length = j by omega]; exact HO.out, hho, HB.out⟩
    · go_wp2_with fail
      go_ret
      exact ⟨ho, _, rfl, by rw [show min k.toNat l.length = j by omega]; exact HO.out, hho, HB.out⟩

end Go.Proofs.Ytjojhnkibgkleaa
