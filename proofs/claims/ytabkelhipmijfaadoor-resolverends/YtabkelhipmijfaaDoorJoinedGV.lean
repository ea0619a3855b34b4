/-
  What stays of a resolver over its calls: the names of its questions differ, its sizes; A question without an answer: what it is at each now; conditions as each theorem has them.
-/
import Derived.Test.YtabkelhipmijfaaDoorGW
set_option linter.unusedSimpArgs false
set_option linter.unusedVariables false
namespace Go.Proofs.YtabkelhipmijfaaDoor
open Go.RowKit

theorem wrap_small (n : Int) (m : Nat) (hm : 0 < m) (hm1 : m ≤ 4611686018427387904) : ∃ k : Nat, k < m ∧ wrap64 ((IntKind.u64.wrap n).tmod m) = (k : Int) := by
  have hu : 0 ≤ IntKind.u64.wrap n := by
    have : IntKind.u64.wrap n = n % 18446744073709551616 := by simp [IntKind.wrap, IntKind.signed, IntKind.bits]
    rw [this]
    exact Int.emod_nonneg _ (by omega)
  generalize IntKind.u64.wrap n = u at hu
  rw [Int.tmod_eq_emod_of_nonneg hu]
  have h1 := Int.emod_nonneg u (show (m : Int) ≠ 0 by omega)
  have h2 := Int.emod_lt_of_pos u (show (0 : Int) < m by omega)
  refine ⟨(u % m).toNat, by omega, ?_⟩
  generalize u % (m : Int) = x at h1 h2
  rw [Int.toNat_of_nonneg h1]
  unfold wrap64
  omega
set_option maxHeartbeats 400000 in
theorem among (n : Int) (m : Nat) (hm : 0 < m) (hm1 : m ≤ 4611686018427387904) (w : World) : Calls Tryd.prog 5 #[.int .i64 n, .int .i64 m] w fun e w' => ∃ k : Nat, k < m ∧ e = .returned (.int .i64 k) ∧ w = w' := by
  go_enter Tryd.func5, Tryd.ntmps5
  go_wp2
  go_ret
  obtain ⟨k, hk, e⟩ := wrap_small n m hm hm1
  exact ⟨k, hk, by rw [← e]; rfl, rfl⟩
/-- The same, wherever it is called. -/
theorem among_k (n : Int) (m : Nat) (hm : 0 < m) (hm1 : m ≤ 4611686018427387904) : ∃ k : Nat, k < m ∧ ∀ w : World, Calls Tryd.prog 5 #[.int .i64 n, .int .i64 m] w fun e w' => e = .returned (.int .i64 k) ∧ w = w' := by
  obtain ⟨k, hk, e0⟩ := wrap_small n m hm hm1
  refine ⟨k, hk, fun w => ?_⟩
  go_enter Tryd.func5, Tryd.ntmps5
  go_wp2
  go_ret
  exact ⟨by rw [← e0]; rfl, rfl⟩
/-- No two questions are for one name. -/
def NmU (L : List Qn) : Prop := (L.map Qn.nm).Nodup
theorem NmU.ne {L : List Qn} (h : NmU L) {j k : Nat} (hk : k < j) (hj : j < L.length) : (qAt L j).nm ≠ (qAt L k).nm := by
  have h1 := List.pairwise_iff_getElem.1 (show (L.map Qn.nm).Pairwise (· ≠ ·) from h) k j (by simp; omega) (by simpa using hj) hk
  simp only [List.getElem_map] at h1
  have e1 : qAt L j = L[j] := by simp [qAt, hj]
  have e2 : qAt L k = L[k] := by simp [qAt, show k < L.length by omega]
  rw [e1, e2]
  exact fun e => h1 e.symm
theorem map_set_same {L : List Qn} {i : Nat} (hi : i < L.length) (x : Qn) (hx : x.nm = (qAt L i).nm) : (L.set i x).map Qn.nm = L.map Qn.nm := by
  rw [List.map_set, hx]
  apply List.ext_getElem?
  intro n
  rw [List.getElem?_set]
  split
  · rename_i e
    subst e
    simp [hi, qAt]
  · rfl
theorem NmU.snd {R : Rs} (h : NmU R.qs) {i : Nat} (hi : i < R.qs.length) (now draw : Int) : NmU (Go.Proofs.YtabkelhipmijfaaDoor.snd R i now draw).qs := by
  unfold NmU
  show ((R.qs.set i _).map Qn.nm).Nodup
  rw [map_set_same hi ⟨draw % 65536, (qAt R.qs i).nm, (qAt R.qs i).sent + 1, now + 4⟩ rfl]
  exact h
theorem NmU.stl {R : Rs} (h : NmU R.qs) (i : Nat) (now : Int) (ads : List Ad) (life : Int) : NmU (Go.Proofs.YtabkelhipmijfaaDoor.stl R i now ads life).qs :=
  List.Nodup.sublist ((List.eraseIdx_sublist R.qs i).map Qn.nm) h
theorem fnd_not {p : Qn → Bool} : ∀ {L : List Qn}, ¬ fnd p L < L.length → ∀ q ∈ L, p q = false
  | [], _, q, hq => by cases hq
  | x :: L, h, q, hq => by
    unfold fnd at h
    split at h
    · simp at h
    · rename_i hx
      rcases List.mem_cons.1 hq with e | hq
      · subst e; simpa using hx
      · exact fnd_not (p := p) (L := L) (by simp at h; omega) q hq
theorem NmU.add {R : Rs} (h : NmU R.qs) {t : ByteArray} (hf : ¬ fnd (hasN t) R.qs < R.qs.length) : NmU (addQ R t).qs := by
  unfold NmU
  show ((R.qs ++ [_]).map Qn.nm).Nodup
  rw [List.map_append, List.nodup_append]
  refine ⟨h, by simp, fun a ha b hb => ?_⟩
  simp at hb
  subst hb
  obtain ⟨q, hq, rfl⟩ := List.mem_map.1 ha
  have := fnd_not hf q hq
  simpa [hasN] using this
/-- What a resolver's calls leave as it may be. -/
structure Rs.Fit (R : Rs) (slots most k : Nat) : Prop where
  most : R.most = most
  tab : R.tab.length = slots
  nm : NmU R.qs
  ps : R.ps.length ≤ k
theorem Rs.Fit.new (slots most : Nat) : (newR slots most).Fit slots most 0 := ⟨rfl, by simp [newR], by simp [newR, NmU], by simp [newR]⟩
variable {R : Rs} {slots most k : Nat}
theorem Rs.Fit.grow (h : R.Fit slots most k) : R.Fit slots most (k + 1) := ⟨h.most, h.tab, h.nm, by have := h.ps; omega⟩
theorem Rs.Fit.snd (h : R.Fit slots most k) {i : Nat} (hi : i < R.qs.length) (now draw : Int) : (Go.Proofs.YtabkelhipmijfaaDoor.snd R i now draw).Fit slots most (k + 1) :=
  ⟨h.most, h.tab, h.nm.snd hi now draw, by show (R.ps ++ _).length ≤ _; have := h.ps; simp; omega⟩
theorem Rs.Fit.stl (h : R.Fit slots most k) (i : Nat) (now : Int) (ads : List Ad) (life : Int) : (Go.Proofs.YtabkelhipmijfaaDoor.stl R i now ads life).Fit slots most k :=
  ⟨h.most, by show (Nm.put _ _ _ _ _).length = _; rw [Nm.put_length]; exact h.tab, h.nm.stl _ _ _ _, h.ps⟩
theorem Rs.Fit.ask (h : R.Fit slots most k) (now draw : Int) (t : ByteArray) : (askR R now draw t).Fit slots most (k + 1) := by
  unfold askR
  split
  · exact h.grow
  · split
    · exact h.grow
    · split
      · exact h.grow
      · split
        · exact h.grow
        · rename_i hf _
          have h2 : (addQ R t).Fit slots most k := ⟨h.most, h.tab, h.nm.add hf, h.ps⟩
          exact h2.snd (by simp [addQ]) now draw
theorem Rs.Fit.step (h : R.Fit slots most k) (now draw : Int) : (stepR R now draw).Fit slots most (k + 1) := by
  unfold stepR
  split
  · exact h.grow
  · rename_i hs
    simp only [stepT, decide_eq_false_iff_not, Classical.not_not] at hs
    split
    · exact h.snd hs.2 now draw
    · exact (h.stl _ _ _ _).grow
theorem Rs.Fit.take (h : R.Fit slots most k) (now : Int) (b : List Nat) : (takR R now b).Fit slots most k := by
  unfold takR
  split
  · exact h
  · split
    · exact h.stl _ _ _ _
    · exact h.stl _ _ _ _
theorem Rs.Fit.psmono (h : R.Fit slots most k) {j : Nat} (hj : k ≤ j) : R.Fit slots most j := ⟨h.most, h.tab, h.nm, Nat.le_trans h.ps hj⟩
/-- Refused: as many are outstanding as may be. -/
theorem ask3 {now : Int} {t : ByteArray} (h : askK R now t = 3) : R.qs.length = R.most := by
  unfold askK at h
  split at h
  · cases h
  · split at h
    · cases h
    · split at h
      · cases h
      · split at h
        · rename_i e; exact e
        · cases h
theorem ask3R {now draw : Int} {t : ByteArray} (h : askK R now t = 3) : askR R now draw t = R := by
  unfold askK at h
  unfold askR
  split at h
  · cases h
  · rename_i hb
    rw [if_neg hb]
    split at h
    · cases h
    · split at h
      · cases h
      · rename_i hf
        rw [if_neg hf]
        split at h
        · rename_i e; rw [if_pos e]
        · cases h
theorem askK_le (R : Rs) (now : Int) (t : ByteArray) : askK R now t = 0 ∨ askK R now t = 1 ∨ askK R now t = 2 ∨ askK R now t = 3 := by
  unfold askK
  split
  · simp
  · split
    · simp
    · split
      · simp
      · split <;> simp
theorem askE_or (now : Int) (t : ByteArray) : askE now t = 0 ∨ askE now t = 2 := by
  unfold askE
  split <;> simp

end Go.Proofs.YtabkelhipmijfaaDoor

set_option linter.unusedSimpArgs false
set_option linter.unusedVariables false
namespace Go.Proofs.YtabkelhipmijfaaDoor
open Go.RowKit

/-- One question for a.b, that was sent s times since now. -/
def eR (id : Int) (s : Nat) (now : Int) : Rs := ⟨1, [Nm.zeroS], [⟨id, ab, s, now + 4 * s⟩], []⟩
/-- None, and a.b has no addresses till then. -/
def eG (now : Int) : Rs := ⟨1, [⟨ab, now + 4, []⟩], [], []⟩
theorem ab_ne : ab.size ≠ 0 := by decide
theorem got_zero (now : Int) : Nm.got [Nm.zeroS] now ab = none := got_none 1 now ab ab_ne
theorem not_bad {t : Int} (h : nowOk t) : ¬ askBad t ab := fun e => e ⟨h, ok_ab⟩
theorem e_first (now draw : Int) (h : nowOk now) : askK (newR 1 1) now ab = 2 ∧ askE now ab = 0 ∧ askR (newR 1 1) now draw ab = { eR (draw % 65536) 1 now with ps := [(putQr (draw % 65536) (byt ab)).1] } := by
  have hb := not_bad h
  have hg : Nm.got (newR 1 1).tab now ab = none := got_zero now
  refine ⟨?_, ?_, ?_⟩
  · unfold askK; rw [if_neg hb, hg]; rfl
  · unfold askE; rw [if_neg hb]
  · unfold askR
    rw [if_neg hb, hg]
    simp [newR, fnd, snd, addQ, qAt, eR]
theorem e_ask (id : Int) (s : Nat) (now t : Int) (h : nowOk t) : askK (eR id s now) t ab = 2 ∧ askE t ab = 0 ∧ askR (eR id s now) t 1 ab = eR id s now := by
  have hb := not_bad h
  have hg : Nm.got (eR id s now).tab t ab = none := got_zero t
  have hf : fnd (hasN ab) (eR id s now).qs < (eR id s now).qs.length := by simp [eR, fnd, hasN]
  refine ⟨?_, ?_, ?_⟩
  · unfold askK; rw [if_neg hb, hg]; simp only; rw [if_pos hf]
  · unfold askE; rw [if_neg hb]
  · unfold askR; rw [if_neg hb, hg]; simp only; rw [if_pos hf]
theorem e_wait (id : Int) (s : Nat) (now t draw : Int) (h : t < now + 4 * s) : stepT (eR id s now) t = false ∧ stepR (eR id s now) t draw = eR id s now := by
  have hs : stepT (eR id s now) t = false := by
    unfold stepT
    apply decide_eq_false
    intro hh
    have : fnd (isT t) (eR id s now).qs = 1 := by
      have : isT t ⟨id, ab, s, now + 4 * s⟩ = false := by unfold isT; exact decide_eq_false (by show ¬ (now + 4 * (s : Int) ≤ t); omega)
      simp [eR, fnd, this]
    rw [this] at hh
    exact absurd hh.2 (by simp [eR])
  exact ⟨hs, by unfold stepR; rw [hs, if_pos rfl]⟩
theorem e_due (id : Int) (s : Nat) (now t : Int) (h : nowOk t) (hd : t = now + 4 * s) : stepT (eR id s now) t = true ∧ fnd (isT t) (eR id s now).qs = 0 := by
  have hf : fnd (isT t) (eR id s now).qs = 0 := by
    have : isT t ⟨id, ab, s, now + 4 * s⟩ = true := by unfold isT; exact decide_eq_true (by show now + 4 * (s : Int) ≤ t; omega)
    simp [eR, fnd, this]
  exact ⟨by unfold stepT; apply decide_eq_true; rw [hf]; exact ⟨h, by simp [eR]⟩, hf⟩
theorem e_again (id : Int) (s : Nat) (now t draw : Int) (h : nowOk t) (hd : t = now + 4 * s) (hs : s < 3) : stepR (eR id s now) t draw = { eR (draw % 65536) (s + 1) now with ps := [(putQr (draw % 65536) (byt ab)).1] } := by
  obtain ⟨h1, h2⟩ := e_due id s now t h hd
  unfold stepR
  rw [h1, if_neg (by simp), h2, if_pos (by show ((s : Nat) : Int) < 3; omega)]
  subst hd
  simp [snd, eR, qAt]
  omega
theorem put_one (now : Int) (h : nowOk now) : Nm.put [Nm.zeroS] now ab [] 4 = [⟨ab, now + 4, []⟩] := by
  have hp : Nm.place [Nm.zeroS] now ab = 0 := by
    have := Nm.place_lt now ab (L := [Nm.zeroS]) (by simp)
    simp at this
    exact this
  unfold Nm.put
  rw [if_neg (by unfold Nm.badNow Nm.badPut; unfold nowOk at h; have : ab.size = 3 := rfl; simp only [List.length_nil]; omega), if_neg (by omega), hp]
  rfl
theorem e_end (id : Int) (now t : Int) (h : nowOk t) (hd : t = now + 4 * (3 : Nat)) : stepR (eR id 3 now) t 1 = eG t := by
  obtain ⟨h1, h2⟩ := e_due id 3 now t h hd
  unfold stepR
  rw [h1, if_neg (by simp), h2, if_neg (by show ¬ (((3 : Nat) : Int) < 3); omega)]
  show (⟨1, Nm.put [Nm.zeroS] t ab [] 4, [], []⟩ : Rs) = _
  rw [put_one t h]
  rfl
theorem g_known (t : Int) (h : nowOk t) : askK (eG t) t ab = 1 ∧ askE t ab = 0 ∧ askA (eG t) t ab = [] ∧ askR (eG t) t 1 ab = eG t := by
  have hb := not_bad h
  have hg : Nm.got (eG t).tab t ab = some ⟨ab, t + 4, []⟩ := by
    have hx : Nm.fidx ab [⟨ab, t + 4, []⟩] = 0 := Nm.fidx_eq (s := ⟨ab, t + 4, []⟩) rfl rfl (fun k x hk => by omega)
    show Nm.got [⟨ab, t + 4, []⟩] t ab = _
    unfold Nm.got
    rw [if_neg (by unfold Nm.badNow; unfold nowOk at h; omega), hx]
    simp only [List.getElem?_cons_zero]
    rw [if_pos (by show t < t + 4; omega)]
  refine ⟨?_, ?_, ?_, ?_⟩
  · unfold askK; rw [if_neg hb, hg]
  · unfold askE; rw [if_neg hb]
  · unfold askA Nm.getA; rw [if_neg hb, hg]
  · unfold askR; rw [if_neg hb, hg]
theorem g_over (t : Int) (h : nowOk t) (h4 : nowOk (t + 4)) : askK (eG t) (t + 4) ab = 2 ∧ askE (t + 4) ab = 0 := by
  have hb := not_bad h4
  have hg : Nm.got (eG t).tab (t + 4) ab = none := by
    have hx : Nm.fidx ab [⟨ab, t + 4, []⟩] = 0 := Nm.fidx_eq (s := ⟨ab, t + 4, []⟩) rfl rfl (fun k x hk => by omega)
    show Nm.got [⟨ab, t + 4, []⟩] (t + 4) ab = _
    unfold Nm.got
    rw [if_neg (by unfold Nm.badNow; unfold nowOk at h4; omega), hx]
    simp
  refine ⟨?_, ?_⟩
  · unfold askK; rw [if_neg hb, hg]; rfl
  · unfold askE; rw [if_neg hb]

end Go.Proofs.YtabkelhipmijfaaDoor
