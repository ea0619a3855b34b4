/-
  Resolvers as wholes, and the chapter's example ('works' of the statements); conditions as each theorem has them.
-/
import Derived.Test.YtabkelhipmijfaaGreatDoorGL
import Derived.Test.YtabkelhipmijfaaGreatDoorJoinedGI
set_option linter.unusedSimpArgs false
set_option linter.unusedVariables false
namespace Go.Proofs.YtabkelhipmijfaaGreatDoor
open Go.RowKit

/-- A resolver, all memory of which lies where F says. -/
def PF (F : Nat → Prop) (w : World) (r : Nat) (R : Rs) : Prop := ∃ S, (∀ k, S k → F k) ∧ Res w S r R
variable {F : Nat → Prop} {w : World} {r : Nat} {R : Rs}
theorem PF.ok (h : PF F w r R) : R.Ok := by
  obtain ⟨S, _, h⟩ := h
  exact h.ok
theorem PF.below {w' : World} (h : PF F w r R) (k : Below w.heap.size w w') : PF F w' r R := by
  obtain ⟨S, h1, h2⟩ := h
  exact ⟨S, h1, h2.below k⟩
theorem PF.mono {G : Nat → Prop} (h : PF F w r R) (hG : ∀ k, k < w.heap.size → F k → G k) : PF G w r R := by
  obtain ⟨S, h1, h2⟩ := h
  exact ⟨S, fun k hk => hG k (h2.lt k hk) (h1 k hk), h2⟩
theorem PF.mk2 {w' : World} {S : Nat → Prop} {R' : Rs} (hF : ∀ k, w.heap.size ≤ k → F k) (hS : ∀ k, S k → F k) (h : Res w' (grow S w w') r R') (k : KeptS S w w') : PF F w' r R' ∧ KeptS F w w' :=
  ⟨⟨_, fun x hx => hx.elim (hS x) (fun y => hF x y.1), h⟩, k.mono (fun x hx => Or.inl (hS x hx))⟩
theorem ask_F (h : PF F w r R) (hF : ∀ k, w.heap.size ≤ k → F k) (hV : Vars w) (h0 : ¬ F 0) (now draw : Int) (nm : ByteArray) (hnm : nm.size ≤ maxLen) (hlen : R.ps.length ≤ 4000000000000) :
    Calls Tryz.prog 10 #[.pointer (some ⟨r, 0, none⟩), .int .i64 now, .int .i64 draw, .string nm] w fun e w' => ∃ v, e = .returned (.tuple #[.int .i64 (askK R now nm), v, .int .i64 (askE now nm)]) ∧ Nm.OwnA w' w.heap.size v (askA R now nm) ∧ PF F w' r (askR R now draw nm) ∧ KeptS F w w' := by
  obtain ⟨S, h1, t, g, qv, pv, V, h2⟩ := h
  refine (pAsk_at h2 hV (fun e => h0 (h1 0 e)) now draw nm hnm hlen).mono ?_
  rintro e w' ⟨v, e1, e2, e3, e4, _⟩
  exact ⟨v, e1, e2, PF.mk2 hF h1 e3 e4⟩
theorem step_F (h : PF F w r R) (hF : ∀ k, w.heap.size ≤ k → F k) (hV : Vars w) (h0 : ¬ F 0) (now draw : Int) (hlen : R.ps.length ≤ 4000000000000) :
    Calls Tryz.prog 13 #[.pointer (some ⟨r, 0, none⟩), .int .i64 now, .int .i64 draw] w fun e w' => e = .returned (.tuple #[.bool (stepT R now), .int .i64 (nowE now)]) ∧ PF F w' r (stepR R now draw) ∧ KeptS F w w' := by
  obtain ⟨S, h1, t, g, qv, pv, V, h2⟩ := h
  refine (pStep_at h2 hV (fun e => h0 (h1 0 e)) now draw hlen).mono ?_
  rintro e w' ⟨e1, e3, e4⟩
  exact ⟨e1, PF.mk2 hF h1 e3 e4⟩
theorem take_F (h : PF F w r R) (hF : ∀ k, w.heap.size ≤ k → F k) (hV : Vars w) (now : Int) (a : Option Addr) (n c : Nat) (bs : List Nat) (hs : Src w a n c bs) (hn : n ≤ 140737488351232) :
    Calls Tryz.prog 18 #[.pointer (some ⟨r, 0, none⟩), .int .i64 now, .slice a n c] w fun e w' => e = .returned (.tuple #[.bool (takT R now bs), .int .i64 (nowE now)]) ∧ PF F w' r (takR R now bs) ∧ KeptS F w w' := by
  obtain ⟨S, h1, t, g, qv, pv, V, h2⟩ := h
  refine (pTake_at h2 hV now a n c bs hs hn).mono ?_
  rintro e w' ⟨e1, e3, e4⟩
  exact ⟨e1, PF.mk2 hF h1 e3 e4⟩
theorem posts_F (h : PF F w r R) : Calls Tryz.prog 22 #[.pointer (some ⟨r, 0, none⟩)] w fun e w' => ∃ a c, e = .returned (.slice a R.ps.length c) ∧ SrcP w' (fun _ => True) a R.ps.length c R.ps ∧ PF (fun k => F k ∧ ∃ cs ty f, w'.heap[k]? = some (Obj.cells cs ty f) ∧ ty ≠ 30 ∧ ty ≠ 5) w' r { R with ps := [] } ∧ KeptS F w w' := by
  obtain ⟨S, h1, t, g, qv, pv, V, h2⟩ := h
  refine (pPosts_at h2).mono ?_
  rintro e w' ⟨a, c, e1, e2, e3, e4, e5⟩
  obtain ⟨⟨V2, hp⟩, hl⟩ := e2
  exact ⟨a, c, e1, ⟨⟨V2, hp.wide (fun _ _ => trivial)⟩, hl⟩, ⟨_, fun k hk => ⟨h1 k (e5 k hk).1, (e5 k hk).2⟩, e3⟩, e4.mono (fun x hx => Or.inl (h1 x hx))⟩
theorem asked_F (h : PF F w r R) : Calls Tryz.prog 16 #[.pointer (some ⟨r, 0, none⟩)] w fun e w' => e = .returned (.slice (some ⟨w.heap.size, 0, none⟩) R.qs.length R.qs.length) ∧ QyAt w' w.heap.size R.qs ∧ PF F w' r R ∧ Below w.heap.size w w' := by
  have h' := h
  obtain ⟨S, h1, t, g, qv, pv, V, h2⟩ := h
  refine (pAsked_at h2).mono ?_
  rintro e w' ⟨e1, e2, e3⟩
  exact ⟨e1, e2, h'.below e3, e3⟩
theorem used_F (h : PF F w r R) (now : Int) : Calls Tryz.prog 23 #[.pointer (some ⟨r, 0, none⟩), .int .i64 now] w fun e w' => e = .returned (.int .i64 (Nm.used R.tab now : Nat)) ∧ PF F w' r R ∧ Below w.heap.size w w' := by
  have h' := h
  obtain ⟨S, h1, t, g, qv, pv, V, h2⟩ := h
  refine (pUsed_at h2 now).mono ?_
  rintro e w' ⟨e1, e3⟩
  exact ⟨e1, h'.below e3, e3⟩
theorem new_F (slots most : Nat) (w : World) (hF : ∀ k, w.heap.size ≤ k → F k) (h1 : 1 ≤ slots) (h2 : slots ≤ 4096) (h3 : most ≤ 64) : Calls Tryz.prog 7 #[.int .i64 slots, .int .i64 most] w fun e w' => ∃ r, e = .returned (.tuple #[.pointer (some ⟨r, 0, none⟩), .int .i64 0]) ∧ PF F w' r (newR slots most) ∧ Below w.heap.size w w' := by
  refine (pNew_at slots most w h1 h2 h3).mono ?_
  rintro e w' ⟨r, e1, e2, e3⟩
  exact ⟨r, e1, ⟨_, fun k hk => hF k hk.1, e2⟩, e3⟩

def ab : ByteArray := ⟨#[97, 46, 98]⟩
theorem byt_ab : byt ab = [97, 46, 98] := by decide +kernel
theorem labB_one (c : Nat) (h : lbAt c 0 1 = true) : labB [c] = true := (labB_iff [c]).2 ⟨by simp, by simp, fun i hi => by
  have : i = 0 := by simpa using hi
  subst this
  exact h⟩
theorem name_ab : name [97, 46, 98] = ([97, 46, 98], .ok) := by
  have hp : pcs [97, 46, 98] = [[97], [98]] := by decide +kernel
  have h1 := labB_one 97 (by decide +kernel)
  have h2 := labB_one 98 (by decide +kernel)
  unfold name
  rw [if_neg (by simp), hp]
  simp only [labs, h1, h2, if_true]
  rw [if_neg (by decide +kernel)]
  decide +kernel
def pst (i : Nat) : List Nat := [0, i, 1, 0, 0, 1, 0, 0, 0, 0, 0, 0, 1, 97, 1, 98, 0, 0, 1, 0, 1]
theorem ex7 : putQr 7 [97, 46, 98] = (pst 7, 0) := by
  have hq : qry 7 [97, 46, 98] = true := by simp [qry, name_ab]
  rw [putQr, if_pos hq]
  decide +kernel
theorem ex8 : putQr 8 [97, 46, 98] = (pst 8, 0) := by
  have hq : qry 8 [97, 46, 98] = true := by simp [qry, name_ab]
  rw [putQr, if_pos hq]
  decide +kernel
theorem ok_ab : nameOk ab = true := by unfold nameOk; rw [byt_ab]; simp [qry, name_ab]
theorem got_none (n : Nat) (now : Int) (t : ByteArray) (h0 : t.size ≠ 0) : Nm.got (List.replicate n Nm.zeroS) now t = none := by
  unfold Nm.got
  split
  · rfl
  · split
    · rename_i s hs
      have e := Nm.fidx_at _ _ _ hs
      rw [Nm.new_at hs] at e
      exact absurd (by rw [← e]; rfl) h0
    · rfl
def w1R (slots most : Nat) : Rs := ⟨most, List.replicate slots Nm.zeroS, [⟨7, ab, 1, 4⟩], []⟩
def w2R (slots most : Nat) : Rs := ⟨most, List.replicate slots Nm.zeroS, [⟨8, ab, 2, 8⟩], []⟩
theorem w_bad0 : ¬ askBad 0 ab := fun h => h ⟨by unfold nowOk; omega, ok_ab⟩
theorem w_ask : askK (newR 4 2) 0 ab = 2 ∧ askE 0 ab = 0 ∧ askA (newR 4 2) 0 ab = [] ∧ askR (newR 4 2) 0 7 ab = { w1R 4 2 with ps := [pst 7] } := by
  have hg : Nm.got (newR 4 2).tab 0 ab = none := got_none 4 0 ab (by decide)
  refine ⟨?_, ?_, ?_, ?_⟩
  · unfold askK; rw [if_neg w_bad0, hg]; rfl
  · unfold askE; rw [if_neg w_bad0]
  · unfold askA Nm.getA; rw [if_neg w_bad0, hg]
  · unfold askR
    rw [if_neg w_bad0, hg]
    simp only [newR, fnd, List.length_nil, Nat.lt_irrefl, if_false]
    simp [snd, addQ, qAt, w1R, byt_ab, ex7]
theorem w_st3 : stepT (w1R 4 2) 3 = false ∧ stepR (w1R 4 2) 3 8 = w1R 4 2 := by
  have h : stepT (w1R 4 2) 3 = false := by decide +kernel
  exact ⟨h, by unfold stepR; rw [h, if_pos rfl]⟩
theorem w_st4 : stepT (w1R 4 2) 4 = true ∧ stepR (w1R 4 2) 4 8 = { w2R 4 2 with ps := [pst 8] } := by
  have h : stepT (w1R 4 2) 4 = true := by decide +kernel
  refine ⟨h, ?_⟩
  have hf : fnd (isT 4) (w1R 4 2).qs = 0 := by decide +kernel
  unfold stepR
  rw [h, if_neg (by simp), hf, if_pos (by decide +kernel)]
  simp [snd, qAt, w1R, w2R, byt_ab, ex8]
theorem w_now : nowE 3 = 0 ∧ nowE 4 = 0 := by decide +kernel
theorem SrcP.byte {S : Nat → Prop} {a : Option Addr} {n c : Nat} {l : List Nat} (h : SrcP w S a n c [l]) (hl : 2 ≤ l.length) : n = 1 ∧ ∃ b, a = some ⟨b, 0, none⟩ ∧ 1 ≤ c ∧ c ≤ maxLen ∧ ∃ d cd, w.cell? ⟨b, 0, none⟩ = some (.slice (some ⟨d, 0, none⟩) l.length cd) ∧ l.length ≤ cd ∧ cd ≤ maxLen ∧ w.cell? ⟨d, 1, none⟩ = some (.int .u8 (l.getD 1 0 : Nat)) ∧ (∃ cur, w.heap[b]? = some (Obj.cells cur 30)) ∧ ∃ cur, w.heap[d]? = some (Obj.cells cur 5) := by
  obtain ⟨⟨V, hp⟩, hn⟩ := h
  have hlen := hp.len
  simp at hn hlen
  obtain ⟨u, rfl⟩ : ∃ u, V = [u] := by
    match V, hlen with
    | [u], _ => exact ⟨u, rfl⟩
  refine ⟨hn.symm, ?_⟩
  rcases hp.own.2 with ⟨_, h0⟩ | ⟨x, cap, cur, hv, _, hh, hnc, hcm, hcs, htk⟩
  · simp at h0
  · simp only [Value.slice.injEq] at hv
    obtain ⟨rfl, _, rfl⟩ := hv
    have hc := hp.own.cells (g := x) rfl 0 u rfl
    rw [Nm.add_none] at hc
    obtain ⟨e1, _, _⟩ := hp.each 0 l u rfl rfl
    rcases e1.2 with ⟨_, h0⟩ | ⟨d, cd, cur2, rfl, _, hh2, hnc2, hcm2, _, _⟩
    · omega
    · have hc2 := e1.cells (g := d) rfl 1 (.int .u8 (l.getD 1 0 : Nat)) (by
        simp only [nums, List.getElem?_map, List.getD_eq_getElem?_getD, List.getElem?_eq_getElem (show 1 < l.length by omega)]
        rfl)
      rw [Nm.add_none] at hc2
      exact ⟨x, rfl, by simpa using hnc, hcm, d, cd, hc, hnc2, hcm2, hc2, ⟨cur, hh⟩, cur2, hh2⟩

end Go.Proofs.YtabkelhipmijfaaGreatDoor
