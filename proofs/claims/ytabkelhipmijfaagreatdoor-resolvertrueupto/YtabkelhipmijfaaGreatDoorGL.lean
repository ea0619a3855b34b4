/-
  New, Asked, Posts and Used of package resolver; conditions as each theorem has them.
-/
import Derived.Test.YtabkelhipmijfaaGreatDoorGK
set_option linter.unusedSimpArgs false
set_option linter.unusedVariables false
namespace Go.Proofs.YtabkelhipmijfaaGreatDoor
open Go.RowKit

abbrev badRs (slots most : Int) : Prop := slots < 1 ∨ 4096 < slots ∨ most < 0 ∨ 64 < most
theorem pNew_bad (slots most : Int) (w : World) (h : badRs slots most) : Calls Tryz.prog 7 #[.int .i64 slots, .int .i64 most] w fun e w' => e = .returned (.tuple #[.pointer none, .int .i64 2]) ∧ w = w' := by
  by_cases h1 : slots < 1
  · go_enter Tryz.func7, Tryz.ntmps7
    go_wp2
    go_ret2
    exact ⟨rfl, rfl⟩
  by_cases h2 : 4096 < slots
  · go_enter Tryz.func7, Tryz.ntmps7
    go_wp2
    go_ret2
    exact ⟨rfl, rfl⟩
  by_cases h3 : most < 0
  · go_enter Tryz.func7, Tryz.ntmps7
    go_wp2
    go_ret2
    exact ⟨rfl, rfl⟩
  have h4 : 64 < most := by omega
  go_enter Tryz.func7, Tryz.ntmps7
  go_wp2
  go_ret2
  exact ⟨rfl, rfl⟩
def newR (slots most : Nat) : Rs := ⟨most, List.replicate slots Nm.zeroS, [], []⟩
theorem pNew_at (slots most : Nat) (w : World) (h1 : 1 ≤ slots) (h2 : slots ≤ 4096) (h3 : most ≤ 64) : Calls Tryz.prog 7 #[.int .i64 slots, .int .i64 most] w fun e w' => ∃ r, e = .returned (.tuple #[.pointer (some ⟨r, 0, none⟩), .int .i64 0]) ∧ Res w' (fun k => w.heap.size ≤ k ∧ k < w'.heap.size) r (newR slots most) ∧ Below w.heap.size w w' := by
  have d1 : decide ((slots : Int) < 1) = false := decide_eq_false (by omega)
  have d2 : decide ((slots : Int) > 4096) = false := decide_eq_false (by omega)
  have d3 : decide ((most : Int) < 0) = false := decide_eq_false (by omega)
  have d4 : decide ((most : Int) > 64) = false := decide_eq_false (by omega)
  have H3 := hide h3
  have H1 := hide h1
  go_enter Tryz.func7, Tryz.ntmps7
  go_wp2_with fail
  refine (Nm.new_good slots w h2).mono ?_
  rintro e w1 ⟨rfl, ht, k1⟩
  have K1 := hide k1
  have HTB := hide ht
  clear ht k1
  go_wp2_with fail
  go_ret2
  have kb : Below w1.heap.size w1 (w1.alloc (.cells #[.int .i64 most, .pointer (some ⟨w.heap.size + 1, 0, none⟩), .slice none 0 0, .slice none 0 0] 74)) := (Below.refl _ _).alloc (Nat.le_refl _) _
  have hl := HTB.out.lt
  have hsz := K1.out.size
  have hz : (w1.alloc (.cells #[.int .i64 most, .pointer (some ⟨w.heap.size + 1, 0, none⟩), .slice none 0 0, .slice none 0 0] 74)).heap.size = w1.heap.size + 1 := by simp
  refine ⟨w1.heap.size, rfl, ⟨w.heap.size + 1, w.heap.size, .slice none 0 0, .slice none 0 0, [], ⟨Nm.alloc_new _ _, HTB.out.below kb hl.1 hl.2, ⟨rfl, Or.inl ⟨rfl, rfl⟩⟩, ⟨⟨rfl, Or.inl ⟨rfl, rfl⟩⟩, fun i l u hl' _ => by simp [newR] at hl'⟩, ⟨H3.out, by simp [newR], by simp [newR]; exact H1.out, (fun q hq => by simp [newR] at hq)⟩, fun k hk => hk.2, ⟨by omega, by omega⟩, ⟨by omega, by omega⟩, ⟨by omega, by omega⟩, (fun k hk => by cases hk), (fun k hk => by cases hk)⟩⟩, K1.out.trans (kb.mono hsz)⟩
variable {w : World} {S : Nat → Prop} {r t g : Nat} {qv pv : Value} {V : List Value} {R : Rs}
theorem pUsed_at (h : IsRs w S r t g qv pv V R) (now : Int) : Calls Tryz.prog 23 #[.pointer (some ⟨r, 0, none⟩), .int .i64 now] w fun e w' => e = .returned (.int .i64 (Nm.used R.tab now : Nat)) ∧ Below w.heap.size w w' := by
  obtain ⟨c0, c1, c2, c3⟩ := h.cells
  have HM := hide (isMade_at h)
  have HU := hide (Nm.used_at t g R.tab now w h.tab)
  clear h
  go_enter Tryz.func23, Tryz.ntmps23
  go_wp2_with fail
  refine HM.out.mono ?_
  rintro e w1 ⟨rfl, rfl⟩
  go_wp2_with fail
  refine HU.out.mono ?_
  rintro e w1 ⟨rfl, k1⟩
  have K1 := hide k1
  clear k1
  go_wp2_with fail
  go_ret
  exact ⟨rfl, K1.out⟩
/-- What Posts hands out: posts that lie somewhere. -/
structure SrcP (w : World) (S : Nat → Prop) (a : Option Addr) (n c : Nat) (L : List (List Nat)) : Prop where
  ps : ∃ V, IsPs w S (.slice a n c) V L
  len : L.length = n
theorem pPosts_at (h : IsRs w S r t g qv pv V R) : Calls Tryz.prog 22 #[.pointer (some ⟨r, 0, none⟩)] w fun e w' => ∃ a c, e = .returned (.slice a R.ps.length c) ∧ SrcP w' S a R.ps.length c R.ps ∧ Res w' (fun k => k = r ∨ k = t ∨ k = g ∨ qv.ownBlock = some k) r { R with ps := [] } ∧ KeptS S w w' ∧ (∀ k, (k = r ∨ k = t ∨ k = g ∨ qv.ownBlock = some k) → S k ∧ ∃ cs ty f, w'.heap[k]? = some (Obj.cells cs ty f) ∧ ty ≠ 30 ∧ ty ≠ 5) := by
  obtain ⟨c0, c1, c2, c3⟩ := h.cells
  have f3 := h.frozen 3
  have HM := hide (isMade_at h)
  have H := hide h
  obtain ⟨a, c, rfl⟩ := own_shape h.ps.own
  have hk := (KeptS.refl S w).setCell (p := ⟨r, 3, none⟩) h.sr (.slice none 0 0)
  have hSS : ∀ x, (x = r ∨ x = t ∨ x = g ∨ qv.ownBlock = some x) → S x := fun x hx => by
    rcases hx with hx | hx | hx | hx
    · subst hx; exact h.sr
    · subst hx; exact h.st
    · subst hx; exact h.sg
    · exact h.sq x hx
  have nb : ∀ (x : Nat) (cs : Array Value) (ty : TypeId) (f : Nat × Nat), w.heap[x]? = some (Obj.cells cs ty f) → ty ≠ 74 → (w.setCell ⟨r, 3, none⟩ (.slice none 0 0)).heap[x]? = w.heap[x]? := fun x cs ty f hx hne => Below.heap_setCell _ _ _ _ (ty_ne hx h.head hne)
  have HP : Hid (SrcP (w.setCell ⟨r, 3, none⟩ (.slice none 0 0)) S a R.ps.length c R.ps) := ⟨⟨V, h.ps.keep (fun x hx => by
    obtain ⟨cur, hc⟩ := own_block h.ps.own hx
    exact nb _ _ _ _ hc (by decide)) (fun x cur _ hc => nb _ _ _ _ hc (by decide))⟩, rfl⟩
  have HR : Hid (Res (w.setCell ⟨r, 3, none⟩ (.slice none 0 0)) (fun k => k = r ∨ k = t ∨ k = g ∨ qv.ownBlock = some k) r { R with ps := [] }) := ⟨t, g, qv, .slice none 0 0, [], ⟨setHead h.head 3 _ rfl, h.tab.keep (nb _ _ _ _ (show w.heap[t]? = some (Obj.cells _ 119) from h.tab.head) (by decide)) (nb _ _ _ _ (show w.heap[g]? = some (Obj.cells _ 125) from h.tab.row) (by decide)), own_keep h.qs (fun x hx => by
    obtain ⟨cur, hc⟩ := own_block h.qs hx
    exact nb _ _ _ _ hc (by decide)), ⟨⟨rfl, Or.inl ⟨rfl, rfl⟩⟩, fun i l u hl _ => by simp at hl⟩, ⟨h.ok.most, h.ok.few, h.ok.tl, h.ok.q⟩, (fun x hx => by rw [show (w.setCell ⟨r, 3, none⟩ (.slice none 0 0)).heap.size = w.heap.size by simp [World.setCell]]; exact h.lt x (hSS x hx)), Or.inl rfl, Or.inr (Or.inl rfl), Or.inr (Or.inr (Or.inl rfl)), (fun x hx => Or.inr (Or.inr (Or.inr hx))), (fun x hx => by cases hx)⟩⟩
  have HT : Hid (∀ k, (k = r ∨ k = t ∨ k = g ∨ qv.ownBlock = some k) → S k ∧ ∃ cs ty f, (w.setCell ⟨r, 3, none⟩ (.slice none 0 0)).heap[k]? = some (Obj.cells cs ty f) ∧ ty ≠ 30 ∧ ty ≠ 5) := fun k hk => ⟨hSS k hk, by
    rcases hk with hk | hk | hk | hk
    · subst hk; exact ⟨_, _, _, setHead h.head 3 _ rfl, by decide, by decide⟩
    · subst hk; exact ⟨_, _, _, (nb _ _ _ _ (show w.heap[k]? = some (Obj.cells _ 119) from h.tab.head) (by decide)).trans (show w.heap[k]? = some (Obj.cells _ 119) from h.tab.head), by decide, by decide⟩
    · subst hk; exact ⟨_, _, _, (nb _ _ _ _ (show w.heap[k]? = some (Obj.cells _ 125) from h.tab.row) (by decide)).trans (show w.heap[k]? = some (Obj.cells _ 125) from h.tab.row), by decide, by decide⟩
    · obtain ⟨cur, hc⟩ := own_block h.qs hk
      exact ⟨_, _, _, (nb _ _ _ _ hc (by decide)).trans hc, by decide, by decide⟩⟩
  have HK := hide hk
  obtain ⟨N, hN⟩ : ∃ N, N = R.ps.length := ⟨_, rfl⟩
  rw [← hN] at c3 HP ⊢
  clear h hk nb hN hSS
  go_enter Tryz.func22, Tryz.ntmps22
  go_wp2_with fail
  refine HM.out.mono ?_
  rintro e w1 ⟨rfl, rfl⟩
  go_wp2_with fail
  go_ret
  exact ⟨a, c, rfl, HP.out, HR.out, HK.out, HT.out⟩
/-- Questions that were told: ids and names. -/
def qyC (q : Qn) : List Value := [.int .i64 q.id, .string q.nm]
def qyCs (L : List Qn) : List Value := L.flatMap qyC
theorem qyCs_cons (q : Qn) (l : List Qn) : qyCs (q :: l) = qyC q ++ qyCs l := by simp [qyCs]
theorem qyCs_len (l : List Qn) : (qyCs l).length = l.length * 2 := by
  induction l with
  | nil => rfl
  | cons x l ih => rw [qyCs_cons, List.length_append, ih, List.length_cons]; simp [qyC]; omega
theorem qyCs_get (l : List Qn) (i j : Nat) (h : i < l.length) (hj : j < 2) : (qyCs l)[i * 2 + j]? = (qyC (qAt l i))[j]? := by
  induction l generalizing i with
  | nil => simp at h
  | cons x l ih =>
    rw [qyCs_cons]
    cases i with
    | zero => rw [Nat.zero_mul, Nat.zero_add, List.getElem?_append_left (by simp [qyC]; omega)]; rfl
    | succ i =>
      rw [List.getElem?_append_right (by simp [qyC]; omega), show (qyC x).length = 2 from rfl, show (i + 1) * 2 + j - 2 = i * 2 + j by omega, ih i (by simp at h; omega)]
      rfl
/-- A list of questions in block b. -/
structure QyAt (w : World) (b : Nat) (L : List Qn) : Prop where
  row : ∃ cs : Array Value, w.heap[b]? = some (.cells cs 57) ∧ L.length * 2 ≤ cs.size ∧ ∀ i, i < L.length → ∀ j, j < 2 → cs[i * 2 + j]? = (qyC (qAt L i))[j]?
theorem QyAt.below {w w' : World} {b : Nat} {L : List Qn} (h : QyAt w b L) (k : Below w.heap.size w w') : QyAt w' b L := by
  obtain ⟨cs, h1, h2⟩ := h.row
  exact ⟨cs, (k.block b (Nm.lt_of_some h1)).trans h1, h2⟩
theorem QyAt.cells {w : World} {b : Nat} {L : List Qn} (h : QyAt w b L) {i : Nat} (hi : i < L.length) : w.cell? ⟨b, i * 2, none⟩ = some (.int .i64 (qAt L i).id) ∧ w.cell? ⟨b, i * 2 + 1, none⟩ = some (.string (qAt L i).nm) := by
  obtain ⟨cs, h1, h2, h3⟩ := h.row
  have e0 := h3 i hi 0 (by omega)
  have e1 := h3 i hi 1 (by omega)
  rw [Nat.add_zero] at e0
  exact ⟨by simpa [World.cell?, h1, qyC] using e0, by simpa [World.cell?, h1, qyC] using e1⟩
theorem infQy : (Tryz.prog.info? 57).map (fun i => (i.zero, i.size, i.bytes)) = some (some (.agg #[.int .i64 0, .string ⟨#[]⟩]), 2, 24) := by kernel_rfl
def zQy : Array Value := #[.int .i64 0, .string ⟨#[]⟩]
theorem run_makeQy (n : Nat) (hn : n ≤ 64) (w : World) : (Instr.makeSlice 43 (.int .i64 n) (.int .i64 n)).run Tryz.prog w = .ok (.slice (some ⟨w.heap.size, 0, none⟩) n n) (w.alloc (.cells (madeCells zQy (n * 2)) 57)) := by
  obtain ⟨i, hi, hzz⟩ := Option.map_eq_some_iff.1 infQy
  simp only [Prod.mk.injEq] at hzz
  obtain ⟨hz, hs, hb⟩ := hzz
  have := run_make (P := Tryz.prog) w 43 57 i (.agg #[.int .i64 0, .string ⟨#[]⟩]) Tryz.underlying43 hi hz .i64 .i64 n n (by omega) (Int.le_refl _) (by rw [hb]; omega) (by omega)
  rw [this, hs, Int.toNat_natCast]
  rfl

/-- A list of questions in block b, the first k of them told so far. -/
structure QyMid (w : World) (b n k : Nat) (L : List Qn) : Prop where
  row : ∃ cs : Array Value, w.heap[b]? = some (.cells cs 57) ∧ cs.size = n * 2 ∧ ∀ i, i < k → ∀ j, j < 2 → cs[i * 2 + j]? = (qyC (qAt L i))[j]?
theorem QyMid.there {w : World} {b n k : Nat} {L : List Qn} (h : QyMid w b n k L) {i : Nat} (hi : i < n) : (∃ v0 v1, w.cell? ⟨b, i * 2, none⟩ = some v0 ∧ w.cell? ⟨b, i * 2 + 1, none⟩ = some v1) ∧ ∀ o, w.frozen? ⟨b, o, none⟩ = false := by
  obtain ⟨cs, h1, h2, h3⟩ := h.row
  refine ⟨⟨cs[i * 2], cs[i * 2 + 1], ?_, ?_⟩, fun o => by simp [World.frozen?, h1]⟩
  · simp [World.cell?, h1, show i * 2 < cs.size by omega]
  · simp [World.cell?, h1, show i * 2 + 1 < cs.size by omega]
theorem QyMid.step {w : World} {b n k : Nat} {L : List Qn} (h : QyMid w b n k L) (hk : k < n) : QyMid ((w.setCell ⟨b, k * 2, none⟩ (.int .i64 (qAt L k).id)).setCell ⟨b, k * 2 + 1, none⟩ (.string (qAt L k).nm)) b n (k + 1) L := by
  obtain ⟨cs, h1, h2, h3⟩ := h.row
  refine ⟨⟨_, Nm.heap_setCell_same (Nm.heap_setCell_same h1 (k * 2) (.int .i64 (qAt L k).id)) (k * 2 + 1) (.string (qAt L k).nm), by simpa using h2, fun i hi j hj => ?_⟩⟩
  by_cases e : i = k
  · subst e
    rcases (by omega : j = 0 ∨ j = 1) with rfl | rfl
    · rw [Array.getElem?_setIfInBounds_ne (by omega), Nat.add_zero, Array.getElem?_setIfInBounds_self_of_lt (by omega)]
      rfl
    · rw [Array.getElem?_setIfInBounds_self_of_lt (by simp; omega)]
      rfl
  · rw [Array.getElem?_setIfInBounds_ne (by omega), Array.getElem?_setIfInBounds_ne (by omega)]
    exact h3 i (by omega) j hj
theorem QyMid.done {w : World} {b n : Nat} {L : List Qn} (h : QyMid w b n n L) (hn : n = L.length) : QyAt w b L := by
  obtain ⟨cs, h1, h2, h3⟩ := h.row
  subst hn
  exact ⟨cs, h1, by omega, h3⟩
set_option maxRecDepth 100000 in
set_option maxHeartbeats 1000000 in
theorem pAsked_at (h : IsRs w S r t g qv pv V R) : Calls Tryz.prog 16 #[.pointer (some ⟨r, 0, none⟩)] w fun e w' => e = .returned (.slice (some ⟨w.heap.size, 0, none⟩) R.qs.length R.qs.length) ∧ QyAt w' w.heap.size R.qs ∧ Below w.heap.size w w' := by
  obtain ⟨c0, c1, c2, c3⟩ := h.cells
  have HM := hide (isMade_at h)
  have H := hide h
  have hN64 : R.qs.length ≤ 64 := by have := h.ok.few; have := h.ok.most; omega
  obtain ⟨N, hN⟩ : ∃ N, N = R.qs.length := ⟨_, rfl⟩
  have hN8 : N ≤ 64 := by omega
  have hmk := run_makeQy N hN8
  obtain ⟨a, c, hqv⟩ := own_shape h.qs
  obtain ⟨C, hC⟩ : ∃ C, C = madeCells zQy (N * 2) := ⟨_, rfl⟩
  have hCs : C.size = N * 2 := by rw [hC, size_madeCells]
  rw [← hC] at hmk
  have HQ := hide h.qs
  have HNE := hide hN
  have HMID : Hid (QyMid (w.alloc (.cells C 57)) w.heap.size N 0 R.qs) := ⟨⟨C, Nm.alloc_new _ _, hCs, fun i hi => by omega⟩⟩
  have HBB : Hid (Below w.heap.size w (w.alloc (.cells C 57))) := (Below.refl _ _).alloc (Nat.le_refl _) _
  rw [← hN] at hqv ⊢
  have hrl := Nm.lt_of_some h.head
  have e2 : (w.alloc (.cells C 57)).cell? ⟨r, 2, none⟩ = some qv := (HBB.out.cell (p := ⟨r, 2, none⟩) hrl).trans c2
  rw [hqv] at c2 e2
  clear h hN64 hN hC hCs
  go_enter Tryz.func16, Tryz.ntmps16
  go_wp2_with fail
  refine HM.out.mono ?_
  rintro e w1 ⟨rfl, rfl⟩
  go_wp2_with fail
  go_loopw [20] (fun v wr => ∃ k : Nat, k ≤ N ∧ v = .int .i64 k ∧ Hid (Below w.heap.size w wr) ∧ Hid (QyMid wr w.heap.size N k R.qs)) (fun v _ => N - (intOf v).toNat)
  case atStart => exact ⟨0, Nat.zero_le _, rfl, HBB, HMID⟩
  case round =>
    obtain ⟨k, hk, rfl, HK, HQM⟩ := hrel
    by_cases hkn : k < N
    · have hd : decide ((k : Int) < (N : Int)) = true := decide_eq_true (by omega)
      have hown : OwnQ wr qv R.qs := own_keep HQ.out (fun g hg => by
        obtain ⟨cur, hc⟩ := own_block HQ.out hg
        exact HK.out.block g (Nm.lt_of_some hc))
      obtain ⟨b, c', e, eb, hc1, hc2, _, dd⟩ := own_q hown (i := k) (by have := HNE.out; omega)
      rw [hqv] at e
      simp only [Value.slice.injEq] at e
      obtain ⟨ea, en, ec⟩ := e
      subst ea
      clear en
      have d0 := dd 0 (by omega)
      have d1 := dd 1 (by omega)
      have d2 := dd 2 (by omega)
      have d3 := dd 3 (by omega)
      rw [Nat.add_zero] at d0
      have hcb : N ≤ c ∧ c ≤ 9223372036854775807 := by have := HNE.out; unfold maxLen at hc2; omega
      have HSTW := hide (fun W (h : QyMid W w.heap.size N k R.qs) => h.step hkn)
      obtain ⟨q, hq⟩ : ∃ q, q = qAt R.qs k := ⟨_, rfl⟩
      rw [← hq] at d0 d1 d2 d3 HSTW
      obtain ⟨id, nm, sent, again⟩ := q
      simp only [qC] at d0 d1 d2 d3 HSTW
      have hQB : QyMid (wr.alloc (.cells #[.int .i64 id, .string nm, .int .i64 sent, .int .i64 again] 87)) w.heap.size N k R.qs := by
        obtain ⟨cs, h1, h2⟩ := HQM.out.row
        exact ⟨cs, Nm.alloc_old _ h1, h2⟩
      obtain ⟨⟨v0, v1, z0, z1⟩, ff⟩ := hQB.there hkn
      have ff0 := ff (k * 2)
      have ff1 := ff (k * 2 + 1)
      have HST := hide (HSTW.out _ hQB)
      have HKK : Hid (∀ u1 u2, Below w.heap.size w (((wr.alloc (.cells #[.int .i64 id, .string nm, .int .i64 sent, .int .i64 again] 87)).setCell ⟨w.heap.size, k * 2, none⟩ u1).setCell ⟨w.heap.size, k * 2 + 1, none⟩ u2)) := fun u1 u2 => ((HK.out.alloc HK.out.size _).setCell (Nat.le_refl _) u1).setCell (Nat.le_refl _) u2
      clear hq HSTW hQB
      clear dd hown eb hc1 hc2 ec ff
      go_wp2_with fail
      go_roundw
      case rel => exact ⟨k + 1, by omega, by go_num, HKK.out _ _, HST⟩
      case measure => simp [intOf]; omega
    · have hd : decide ((k : Int) < (N : Int)) = false := decide_eq_false (by omega)
      have hkN : k = N := by omega
      have HQA : Hid (QyAt wr w.heap.size R.qs) := QyMid.done (n := N) (by have := HQM.out; rwa [hkN] at this) HNE.out
      clear hkN
      go_wp2_with fail
      go_ret
      exact ⟨rfl, HQA.out, HK.out⟩

end Go.Proofs.YtabkelhipmijfaaGreatDoor
