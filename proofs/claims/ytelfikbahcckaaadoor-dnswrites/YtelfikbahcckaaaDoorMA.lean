/-
  The reader of messages: names within, heads, questions; conditions as each theorem has them.
-/
import Derived.Test.YtelfikbahcckaaaDoorZ
set_option linter.unusedSimpArgs false
set_option linter.unusedVariables false
namespace Go.Proofs.YtelfikbahcckaaaDoor
open Go.RowKit
theorem and_i64 (x y : Nat) (hx : x < 65536) (hy : y < 65536) : bits .and .i64 (x : Int) (y : Int) = ((x &&& y : Nat) : Int) := by
  have h1 : (BitVec.ofInt 64 (x : Int)).toNat = x := by
    rw [BitVec.ofInt_natCast, BitVec.toNat_ofNat]; exact Nat.mod_eq_of_lt (by omega)
  have h2 : (BitVec.ofInt 64 (y : Int)).toNat = y := by
    rw [BitVec.ofInt_natCast, BitVec.toNat_ofNat]; exact Nat.mod_eq_of_lt (by omega)
  have hle : x &&& y ≤ x := Nat.and_le_left
  show IntKind.i64.wrap ((BitVec.ofInt 64 (x : Int) &&& BitVec.ofInt 64 (y : Int)).toNat : Int) = _
  rw [BitVec.toNat_and, h1, h2, IntKind.wrap_i64]
  omega
theorem Rdr.src' {w : World} {g : Nat} {ty : TypeId} {R : List Value} {a : Option Addr} {n c : Nat} {b : List Nat} {s : Sr} (h : Rdr w g ty R a n c b s) : Src w a n c b := h.src
set_option maxRecDepth 100000 in
set_option maxHeartbeats 2000000 in
theorem mname_at (g : Nat) (a : Option Addr) (n c : Nat) (b : List Nat) (s : Sr) (w : World) (h : Rdr w g 79 [] a n c b s) (hV : Vars w) (hn : n ≤ 140737488351232) (hg0 : 0 < g) :
    Calls Tryd.prog 59 #[.pointer (some ⟨g, 0, none⟩)] w fun e w' => e = .returned (.string (strN (mn b s).1)) ∧ Rdr w' g 79 [] a n c b (mn b s).2 ∧ Kept g g w w' ∧ Vars w' := by
  have H := hide h
  obtain ⟨⟨v, h1, h2⟩, h3, h4, h5, h6⟩ := h
  have hg := h1.lt
  have c0 : w.cell? ⟨g, 0, none⟩ = some (.slice a n c) := h1.cell 0
  have c1 : w.cell? ⟨g, 1, none⟩ = some (.int .i64 (s.1 : Nat)) := h1.cell 1
  have c2 : w.cell? ⟨g, 2, none⟩ = some v := h1.cell 2
  have hln := h3.hlen
  by_cases hok : s.2 = .ok
  · obtain rfl := h2.nil hok
    have HN := hide (name_at a n c b (s.1 : Nat) w.drew h3.drew hV (by omega) (by omega))
    have HM : Hid (mn b s = ((namI b (s.1 : Nat)).1, (namI b (s.1 : Nat)).2)) := by show _ = _; rw [mn, if_pos hok, namI, if_neg (by omega)]; rfl
    have HEND : Hid ((namI b (s.1 : Nat)).2.1 ≤ n) := by
      show _ ≤ _
      rw [namI, if_neg (by omega)]
      show (nam b s.1).2.1 ≤ n
      by_cases ho : (nam b s.1).2.2 = .ok
      · have := (nam_good ho).2.1; omega
      · rw [nam_bad ho]; simp
    obtain ⟨S, hS⟩ : ∃ S, S = s.1 := ⟨_, rfl⟩
    rw [← hS] at c1 HN HM HEND
    obtain ⟨R, hR⟩ : ∃ R, R = namI b (S : Nat) := ⟨_, rfl⟩
    rw [← hR] at HN HM HEND
    have HZ : Hid (∀ w2 v2, IsF w2 R.2.2 v2 → Below w.drew.heap.size w.drew w2 → w2.cell? ⟨g, 1, none⟩ = some (.int .i64 (S : Nat)) ∧ w2.cell? ⟨g, 2, none⟩ = some .nilIface ∧ w2.frozen? ⟨g, 1, none⟩ = false ∧ w2.frozen? ⟨g, 2, none⟩ = false ∧ (w2.setCell ⟨g, 1, none⟩ (.int .i64 (R.2.1 : Nat))).frozen? ⟨g, 2, none⟩ = false ∧ g < w2.heap.size ∧
        (Rdr ((w2.setCell ⟨g, 1, none⟩ (.int .i64 (R.2.1 : Nat))).setCell ⟨g, 2, none⟩ v2) g 79 [] a n c b R.2 ∧ Kept g g w ((w2.setCell ⟨g, 1, none⟩ (.int .i64 (R.2.1 : Nat))).setCell ⟨g, 2, none⟩ v2) ∧ Vars ((w2.setCell ⟨g, 1, none⟩ (.int .i64 (R.2.1 : Nat))).setCell ⟨g, 2, none⟩ v2))) := fun w2 v2 hi hb => by
      have hb' : Below w.heap.size w w2 := below_of_drew hb
      have r2 : Row w2 g 79 [.slice a n c, .int .i64 (s.1 : Nat), .nilIface] := h1.keep (hb'.block g h1.lt)
      rw [← hS] at r2
      have r3 := (r2.set 1 (.int .i64 (R.2.1 : Nat)))
      have r4 := r3.set 2 v2
      have k4 : Kept g g w2 ((w2.setCell ⟨g, 1, none⟩ (.int .i64 (R.2.1 : Nat))).setCell ⟨g, 2, none⟩ v2) := ((Kept.refl g g w2).set 1 _).set 2 v2
      have hs2 : Src w2 a n c b := h3.below hb'
      exact ⟨r2.cell 1, r2.cell 2, r2.frozen 1, r2.frozen 2, r3.frozen 2, r2.lt, ⟨⟨v2, by simpa using r4, hi.kept r2 (by decide) k4⟩, hs2.kept k4 h4, h4, h5, by have := HEND.out; omega⟩, (Kept.of_below hb').trans k4, (hV.below hb').kept k4 hg0⟩
    rw [HM.out]
    clear h1 h2 h3 h4 h5 h6 hok hS hR hV
    by_cases hE : R.2.2 = .ok
    · have HE := hide hE
      clear hE
      go_enter Tryd.func59, Tryd.ntmps59
      go_wp2_with fail
      go_region_with (first | (go_at_call 8; refine HN.out.mono ?_; rintro e w2 ⟨v2, rfl, i2, b2⟩; obtain ⟨z1, z2, z3, z4, z5, z6, z7⟩ := HZ.out w2 v2 i2 b2; have HF := hide z7; obtain rfl := i2.nil HE.out; clear i2 b2 z7 c0 c1 c2))
      all_goals (try go_wp2_with fail)
      all_goals go_ret
      all_goals exact ⟨rfl, HF.out⟩
    · have HE := hide hE
      clear hE
      go_enter Tryd.func59, Tryd.ntmps59
      go_wp2_with fail
      go_region_with (first | (go_at_call 8; refine HN.out.mono ?_; rintro e w2 ⟨v2, rfl, i2, b2⟩; obtain ⟨z1, z2, z3, z4, z5, z6, z7⟩ := HZ.out w2 v2 i2 b2; have HF := hide z7; obtain ⟨x2, rfl⟩ := i2.ptr HE.out; clear i2 b2 z7 c0 c1 c2))
      all_goals (try go_wp2_with fail)
      all_goals go_ret
      all_goals exact ⟨rfl, HF.out⟩
  · obtain ⟨x, rfl⟩ := h2.ptr hok
    have HM : Hid (mn b s = ([], s)) := mn_bad hok
    rw [HM.out]
    have HV := hide hV
    clear h1 h2 h3 h4 h5 h6 hok hV
    go_enter Tryd.func59, Tryd.ntmps59
    go_wp2_with fail
    go_ret
    exact ⟨rfl, H.out, Kept.refl _ _ _, HV.out⟩
end Go.Proofs.YtelfikbahcckaaaDoor
