/-
  The inner functions write and read of package ring: what they answer and what they write, at a ring that was made; conditions as each theorem has them.
-/
import Derived.Test.YtjojhnkibgkleaaRB
set_option linter.unusedSimpArgs false
set_option linter.unusedVariables false
set_option maxRecDepth 8000
namespace Go.Proofs.Ytjojhnkibgkleaa
open Go.RowKit

/-- Numbers as bytes in memory. -/
def vals (l : List Int) : List Value := l.map (Value.int .u8)
theorem vals_length (l : List Int) : (vals l).length = l.length := by simp [vals]
theorem vals_splice (l : List Int) (o : Nat) (b : List Int) : splice (vals l) o (vals b) = vals (splice l o b) := by simp [splice, vals]
theorem vals_one (l : List Int) : ∀ v ∈ vals l, v.oneCell' = true := by intro v hv; simp [vals] at hv; obtain ⟨a, _, rfl⟩ := hv; rfl
theorem vals_at (l : List Int) (j : Nat) (v : Value) (h : (vals l)[j]? = some v) : j < l.length ∧ v = .int .u8 (l.getD j 0) := by
  simp [vals, List.getElem?_map] at h
  obtain ⟨x, hx, rfl⟩ := h
  have := (List.getElem?_eq_some_iff.1 hx).1
  refine ⟨this, ?_⟩
  simp [List.getD, hx]

theorem getD_splice (L : List Int) (off : Nat) (cs : List Int) (k : Nat) (h : off + cs.length ≤ L.length) :
    (splice L off cs).getD k 0 = if k < off then L.getD k 0 else if k < off + cs.length then cs.getD (k - off) 0 else L.getD k 0 := by
  unfold splice
  simp only [List.getD, List.getElem?_append, List.length_take, List.getElem?_take, List.getElem?_drop]
  have e : min off L.length = off := by omega
  rw [e]
  by_cases h1 : k < off
  · simp [h1]
  · by_cases h2 : k < off + cs.length
    · have h3 : k - off < cs.length := by omega
      simp [h1, h2, h3]
    · have h3 : ¬ k - off < cs.length := by omega
      simp [h1, h2, h3]
      congr 2
      omega

/-- What came in as a slice of bytes: its numbers bs, which lie in a block (where there are any). -/
structure Src (w : World) (a : Option Addr) (len cap : Nat) (bs : List Int) : Prop where
  hlen : bs.length = len
  hcap : len ≤ cap
  hmax : cap ≤ maxLen
  nil : a = none → cap = 0
  lies : 0 < len → ∃ b o, a = some ⟨b, o, none⟩ ∧ ∀ i, i < len → w.cell? ⟨b, o + i, none⟩ = some (.int .u8 (bs.getD i 0))
  byte : ∀ x ∈ bs, 0 ≤ x ∧ x < 256

/-- bs laid into an array from p on, going round. -/
def lay (zs : List Int) (p : Nat) (bs : List Int) : List Int :=
  if bs.length ≤ zs.length - p then splice zs p bs else splice (splice zs p (bs.take (zs.length - p))) 0 (bs.drop (zs.length - p))

theorem add_none (b o j : Nat) : (⟨b, o, none⟩ : Addr).add j = ⟨b, o + j, none⟩ := by unfold Addr.add; split <;> simp_all
theorem lt_of_some {w : World} {r : Nat} {o : Obj} (h : w.heap[r]? = some o) : r < w.heap.size := (Array.getElem?_eq_some_iff.1 h).1
theorem Kept.at_ {r g : Nat} {w w' : World} (h : Kept r g w w') {k : Nat} {o : Obj} (hk : w.heap[k]? = some o) (h1 : k ≠ r) (h2 : k ≠ g) : w'.heap[k]? = some o := by rw [h.block k (lt_of_some hk) h1 h2]; exact hk

theorem info5 : (Try.prog.info? 5).map (·.size) = some 1 := by kernel_rfl

set_option maxHeartbeats 1000000 in
theorem write_one (r g n p : Nat) (ic op oc : Int) (zs : List Int) (a : Option Addr) (len cap : Nat) (bs : List Int) (w : World)
    (hb : w.heap[r]? = some (hdr g n p ic op oc)) (hg : w.heap[g]? = some (.cells (vals zs).toArray 5)) (hrg : r ≠ g) (hz : zs.length = n) (hn : n ≤ 65536) (hp : p < n ∨ n = 0 ∧ p = 0)
    (hs : Src w a len cap bs) (hm : len ≤ n - p) :
    Calls Try.prog 93 #[.pointer (some ⟨r, 2, none⟩), .slice (some ⟨g, 0, none⟩) n n, .slice a len cap] w fun e w' => e = .returned (.tuple #[]) ∧
      w'.heap[r]? = some (hdr g n (goOn p len n) ((ic + len) % 4294967296) op oc) ∧ w'.heap[g]? = some (.cells (vals (splice zs p bs)).toArray 5) ∧ Kept r g w w' := by
  obtain ⟨h0, h1, h2, h3, h4, h5⟩ := hdr_cells hb
  have hl := hs.hcap
  have HB := hide hb
  have HG := hide hg
  clear hb hg h0 h1 h3 h4 h5
  go_enter Try.func93, Try.ntmps93
  go_wp2_with fail
  refine (pieces_one r 2 g n p len _ h2 hp hn hm).mono ?_
  rintro e w1 ⟨rfl, k1, rfl⟩
  go_wp2_with fail
  obtain ⟨w2, hr, hg2, hk2⟩ := run_copy_seg (P := Try.prog) (w.drewN k1) 45 45 3 5 Try.underlying45 info5 (some ⟨g, p, none⟩) a len (n - p) len cap g p (vals zs) 5 HG.out (vals bs) (by rw [vals_length, hs.hlen]; simp)
    (fun hpos => ⟨rfl, by
      rw [vals_length, hs.hlen] at hpos
      obtain ⟨b, o, rfl, hc⟩ := hs.lies hpos
      refine ⟨_, rfl, fun j v hv => ?_⟩
      obtain ⟨hj, rfl⟩ := vals_at _ _ _ hv
      rw [add_none]
      exact hc j (by rw [← hs.hlen]; exact hj)⟩) (by rw [vals_length, vals_length, hs.hlen, hz]; omega) (vals_one _)
  rw [vals_length, hs.hlen] at hr
  rw [vals_splice] at hg2
  rw [hr]
  have HG2 := hide hg2
  have HK2 := hide hk2
  clear hg2 hk2 hr
  go_wp2_with fail
  all_goals
    rw [run_copy_none (P := Try.prog) _ 45 45 3 5 none _ 0 0 _ _ Try.underlying45 info5 (by simp)]
    go_wp2_with fail
    refine (advance_in r g n p ic op oc len w2 ((HK2.out.of_drewN).at_ HB.out hrg hrg) (by omega) (by omega) hn (by omega) (by omega)).mono ?_
    rintro e w3 ⟨rfl, hb3, hk3⟩
    have HB3 := hide hb3
    have HK3 := hide hk3
    clear hb3 hk3
    go_wp2_with fail
    go_end0
    exact ⟨rfl, HB3.out, HK3.out.at_ HG2.out (Ne.symm hrg) (Ne.symm hrg), ((HK2.out.of_drewN).wide (Or.inr rfl)).trans (HK3.out.wide (Or.inl rfl))⟩

set_option maxHeartbeats 1000000 in
theorem write_two (r g n p : Nat) (ic op oc : Int) (zs : List Int) (a : Option Addr) (len cap : Nat) (bs : List Int) (w : World)
    (hb : w.heap[r]? = some (hdr g n p ic op oc)) (hg : w.heap[g]? = some (.cells (vals zs).toArray 5)) (hrg : r ≠ g) (hz : zs.length = n) (hn : n ≤ 65536) (hp : p < n)
    (hs : Src w a len cap bs) (hm : n - p < len) (hm1 : len ≤ n) (hap : ∀ b o, a = some ⟨b, o, none⟩ → b ≠ g) :
    Calls Try.prog 93 #[.pointer (some ⟨r, 2, none⟩), .slice (some ⟨g, 0, none⟩) n n, .slice a len cap] w fun e w' => e = .returned (.tuple #[]) ∧
      w'.heap[r]? = some (hdr g n (goOn p len n) ((ic + len) % 4294967296) op oc) ∧ w'.heap[g]? = some (.cells (vals (splice (splice zs p (bs.take (n - p))) 0 (bs.drop (n - p)))).toArray 5) ∧ Kept r g w w' := by
  obtain ⟨h0, h1, h2, h3, h4, h5⟩ := hdr_cells hb
  have hl := hs.hcap
  have hlen := hs.hlen
  obtain ⟨b, o, rfl, hcell⟩ := hs.lies (by omega)
  have hbg := hap b o rfl
  have HB := hide hb
  have HG := hide hg
  have HC := hide hcell
  clear hb hg h0 h1 h3 h4 h5 hcell hap hs
  have HL := hide hlen
  clear hlen
  have hcl : ¬ cap = n - p := by omega
  go_enter Try.func93, Try.ntmps93
  go_wp2_with fail
  refine (pieces_two r 2 g n p len _ h2 hp hn hm hm1).mono ?_
  rintro e w1 ⟨rfl, k1, rfl⟩
  go_wp2_with fail
  obtain ⟨w2, hr, hg2, hk2⟩ := run_copy_seg (P := Try.prog) (w.drewN k1) 45 45 3 5 Try.underlying45 info5 (some ⟨g, p, none⟩) (some ⟨b, o, none⟩) (n - p) (n - p) len cap g p (vals zs) 5 HG.out (vals (bs.take (n - p))) (by have := HL.out; rw [vals_length, List.length_take]; show _ = min _ _; omega)
    (fun hpos => ⟨rfl, _, rfl, fun j v hv => by
      obtain ⟨hj, rfl⟩ := vals_at _ _ _ hv
      rw [List.length_take] at hj
      have := HC.out j (by omega)
      rw [add_none]
      rw [show (List.take (n - p) bs).getD j 0 = bs.getD j 0 by simp [List.getD, List.getElem?_take, show j < n - p by omega]]
      exact this⟩) (by rw [vals_length, vals_length, List.length_take, hz]; omega) (vals_one _)
  rw [vals_length, List.length_take, show min (n - p) bs.length = n - p by have := HL.out; omega] at hr
  rw [vals_splice] at hg2
  rw [hr]
  have HG2 := hide hg2
  have HK2 := hide hk2
  clear hg2 hk2 hr
  go_wp2_with fail
  obtain ⟨w3, hr, hg3, hk3⟩ := run_copy_seg (P := Try.prog) w2 45 45 3 5 Try.underlying45 info5 (some ⟨g, 0, none⟩) (some ⟨b, o + (n - p), none⟩) (len - (n - p)) n (len - (n - p)) (cap - (n - p)) g 0 (vals (splice zs p (bs.take (n - p)))) 5 HG2.out (vals (bs.drop (n - p))) (by have := HL.out; rw [vals_length, List.length_drop]; simp; omega)
    (fun hpos => ⟨rfl, _, rfl, fun j v hv => by
      obtain ⟨hj, rfl⟩ := vals_at _ _ _ hv
      rw [List.length_drop] at hj
      have hL := HL.out
      have := HC.out (n - p + j) (by omega)
      rw [add_none]
      rw [show (List.drop (n - p) bs).getD j 0 = bs.getD (n - p + j) 0 by simp [List.getD]]
      rw [show o + (n - p) + j = o + (n - p + j) by omega]
      have hbk := HK2.out.of_drewN.block b (by
        unfold World.cell? at this
        cases e : w.heap[b]? with
        | none => simp [e] at this
        | some x => exact lt_of_some e) hbg hbg
      rw [World.cell?_of_block (w := w) hbk]
      exact this⟩) (by have := HL.out; rw [vals_length, vals_length, List.length_drop, length_splice _ _ _ (by rw [List.length_take]; omega), hz]; omega) (vals_one _)
  rw [vals_length, List.length_drop, HL.out] at hr
  rw [vals_splice] at hg3
  rw [hr]
  have HG3 := hide hg3
  have HK3 := hide (HK2.out.of_drewN.trans hk3)
  clear hg3 hk3 hr HG2 HK2
  go_wp2_with fail
  refine (advance_in r g n p ic op oc len w3 (HK3.out.at_ HB.out hrg hrg) (by omega) (by omega) hn (by omega) (by omega)).mono ?_
  rintro e w4 ⟨rfl, hb4, hk4⟩
  have HB4 := hide hb4
  have HK4 := hide hk4
  clear hb4 hk4
  go_wp2_with fail
  go_end0
  exact ⟨rfl, HB4.out, HK4.out.at_ HG3.out (Ne.symm hrg) (Ne.symm hrg), (HK3.out.wide (Or.inr rfl)).trans (HK4.out.wide (Or.inl rfl))⟩

end Go.Proofs.Ytjojhnkibgkleaa
