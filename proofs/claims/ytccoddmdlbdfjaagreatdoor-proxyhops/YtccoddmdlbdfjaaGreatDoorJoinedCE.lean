/-
  What is sent on: sentFields, sentOn of package proxy; What is sent on: sentOn of package proxy; What is sent on: sentOn of package proxy; conditions as each theorem has them.
-/
import Derived.Test.YtccoddmdlbdfjaaGreatDoorJoinedFF
set_option linter.unusedSimpArgs false
set_option linter.unusedVariables false
namespace Go.Proofs.YtccoddmdlbdfjaaGreatDoor
open Go.RowKit

/-- Fields as a head that was read has them. -/
def Fit (fs : List Fd) : Prop := fs.all okF = true ∧ fs.length ≤ 64
theorem Fit.lens {fs : List Fd} (h : Fit fs) {f : Fd} (hf : f ∈ fs) : f.1.length ≤ 64 ∧ f.2.length ≤ 4096 := by
  have h1 := List.all_eq_true.1 h.1 f hf
  unfold okF at h1
  rw [Bool.and_eq_true] at h1
  exact ⟨(tok_parts h1.1).2.1, (value_parts h1.2).1⟩
theorem Fit.few {fs : List Fd} (h : Fit fs) : Few fs := by
  refine ⟨fun f hf => by have := h.lens hf; omega, ?_⟩
  have key : ∀ l : List Fd, (∀ f ∈ l, f.2.length ≤ 4096) → (l.map fun f => f.2.length + 1).sum ≤ l.length * 4097 := by
    intro l
    induction l with
    | nil => intro _; simp
    | cons f r ih =>
      intro hl
      have h1 := hl f List.mem_cons_self
      have h2 := ih fun g hg => hl g (List.mem_cons_of_mem _ hg)
      simp only [List.map_cons, List.sum_cons, List.length_cons]
      omega
  have := key fs fun f hf => (h.lens hf).2
  have := h.2
  omega
theorem Fit.nil : Fit [] := ⟨rfl, by simp⟩
theorem somE_fit {fs : List Fd} (h : Fit fs) : (somE fs false).1 = fs.filter fun f => hopB fs f.1 == false := by unfold somE; rw [if_neg (by have := h.2; omega)]
theorem somE_mem {fs : List Fd} (h : Fit fs) {f : Fd} (hf : f ∈ (somE fs false).1) : f ∈ fs := by rw [somE_fit h] at hf; exact (List.mem_filter.1 hf).1
theorem sentFd_mem {T : List Nat} {fs : List Fd} (h : Fit fs) {f : Fd} (hf : f ∈ sentF T fs) : f = (hostN, T) ∨ f = (connN, endV) ∨ f ∈ fs := by
  unfold sentF ownK at hf
  rcases List.mem_cons.1 hf with h1 | h1
  · exact Or.inl h1
  · rcases List.mem_cons.1 h1 with h1 | h1
    · exact Or.inr (Or.inl h1)
    · exact Or.inr (Or.inr (somE_mem h (List.mem_filter.1 h1).1))
theorem sentFd_len {T : List Nat} {fs : List Fd} (h : Fit fs) : (sentF T fs).length ≤ 66 := by
  unfold sentF ownK
  have h1 := List.length_filter_le (fun f => !isN hostN f) (somE fs false).1
  have h2 : (somE fs false).1.length ≤ fs.length := by rw [somE_fit h]; exact List.length_filter_le _ _
  have := h.2
  simp only [List.length_cons]
  omega
theorem sentFd_byte {T : List Nat} {fs : List Fd} (h : Fit fs) (hb : okB fs) (hT : ∀ x ∈ T, x < 256) : okB (sentF T fs) := by
  intro f hf
  rcases sentFd_mem h hf with rfl | rfl | hf
  · exact ⟨(by decide : ∀ x ∈ hostN, x < 256), hT⟩
  · exact ⟨by decide, by decide⟩
  · exact hb f hf
theorem sentFd_lens {T : List Nat} {fs : List Fd} (h : Fit fs) (hT : T.length ≤ 259) {f : Fd} (hf : f ∈ sentF T fs) : f.1.length ≤ 64 ∧ f.2.length ≤ 4096 := by
  rcases sentFd_mem h hf with rfl | rfl | hf
  · exact ⟨(by decide : hostN.length ≤ 64), Nat.le_trans hT (by decide)⟩
  · exact ⟨by decide, by decide⟩
  · exact h.lens hf
theorem OwnF.base {w : World} {B B' : Nat} {v : Value} {fs : List Fd} (h : OwnF w B v fs) (hB : B' ≤ B) : OwnF w B' v fs := by
  refine ⟨h.1, ?_⟩
  rcases h.2 with h0 | ⟨x, cap, cur, hv, hx, hrest⟩
  · exact Or.inl h0
  · exact Or.inr ⟨x, cap, cur, hv, Nat.le_trans hB hx, hrest⟩
theorem two_own (T : ByteArray) (w : World) : OwnF (w.alloc (.cells #[.string ⟨#[72, 111, 115, 116]⟩, .string T, .string ⟨#[67, 111, 110, 110, 101, 99, 116, 105, 111, 110]⟩, .string ⟨#[99, 108, 111, 115, 101]⟩] 68)) w.heap.size (.slice (some ⟨w.heap.size, 0, none⟩) 2 2) [(hostN, byt T), (connN, endV)] := by
  refine ⟨rfl, Or.inr ⟨w.heap.size, 2, _, rfl, Nat.le_refl _, alloc_new _ _, Nat.le_refl _, by unfold maxLen; omega, rfl, ?_⟩⟩
  simp only [fcs, strN_byt]
  rfl
set_option maxRecDepth 100000 in
set_option maxHeartbeats 2000000 in
theorem sentFields_at (r : Rc) (a : Option Addr) (n c : Nat) (fs : List Fd) (w : World) (hr : r.Ok) (h : SrcF w a n c fs) (hfit : Fit fs) (hV : Vars w) (hP : Pow w) :
    Calls Tryz.prog 81 #[.agg (r.arr (.slice a n c))] w fun e w' => ∃ v, e = .returned v ∧ OwnF w' w.heap.size v (sentF r.to fs) ∧ Below w.heap.size w w' := by
  obtain ⟨hTl, hTb⟩ := r.to_len hr
  obtain ⟨W, hW⟩ : ∃ W, W = w.alloc (.cells (r.arr (.slice a n c)) 34) := ⟨_, rfl⟩
  have b1 : Below w.heap.size w W := by rw [hW]; exact (Below.refl _ _).alloc (Nat.le_refl _) _
  have hWs : W.heap.size = w.heap.size + 1 := by rw [hW]; simp
  have HK := hide (keep_at a n c fs W (hV.below b1) (h.below b1) hfit.few)
  have HH : Hid (∀ W', Below W.heap.size W W' → Calls Tryz.prog 119 #[.agg #[.int .u8 (r.x0 : Nat), .int .u8 (r.x1 : Nat), .int .u8 (r.x2 : Nat), .int .u8 (r.x3 : Nat), .string r.s, .int .i64 (r.p : Nat)]] W' fun e w' => e = .returned (.string (strN r.to)) ∧ Below W'.heap.size W' w') := fun W' k =>
    hostOf_at r W' hr (hV.below (b1.trans (k.mono b1.size))) (hP.below (b1.trans (k.mono b1.size)))
  have HSM : Hid (∀ x ∈ (somE fs false).1, x ∈ fs) := fun x hx => somE_mem hfit hx
  have HOB : Hid (okB (somE fs false).1) := fun x hx => h.byte x (somE_mem hfit hx)
  have HL : Hid ((somE fs false).1.length ≤ 64) := by
    show _ ≤ _
    rw [somE_fit hfit]; exact Nat.le_trans (List.length_filter_le _ _) hfit.2
  have HLN : Hid (∀ x ∈ fs, x.1.length ≤ maxLen) := fun x hx => by have := hfit.lens hx; unfold maxLen; omega
  have HBY : Hid (okB fs) := h.byte
  have HTE : Hid (byt (strN r.to) = r.to) := byt_strN _ hTb
  have HSF : Hid (sentF r.to fs = [(hostN, r.to), (connN, endV)] ++ (somE fs false).1.filter fun f => !isN hostN f) := rfl
  obtain ⟨S, hS⟩ : ∃ S, S = somE fs false := ⟨_, rfl⟩
  rw [← hS] at HK HSM HOB HL HSF
  obtain ⟨T, hT⟩ : ∃ T, T = r.to := ⟨_, rfl⟩
  rw [← hT] at HH HTE HSF ⊢
  obtain ⟨F, hF⟩ : ∃ F, F = sentF T fs := ⟨_, rfl⟩
  rw [← hF] at HSF ⊢
  obtain ⟨G, hG⟩ : ∃ G, G = w.heap.size := ⟨_, rfl⟩
  obtain ⟨m, x0, x1, x2, x3, s, p, t⟩ := r
  simp only at HH
  have hg : W.heap[G]? = some (.cells #[.string m, .int .u8 (x0 : Nat), .int .u8 (x1 : Nat), .int .u8 (x2 : Nat), .int .u8 (x3 : Nat), .string s, .int .i64 (p : Nat), .string t, .slice a n c] 34) := by rw [hW, hG]; exact alloc_new _ _
  have c8 : W.cell? ⟨G, 8, none⟩ = some (.slice a n c) := by simp [World.cell?, hg]
  have HW : Hid (w.alloc (.cells #[.string m, .int .u8 (x0 : Nat), .int .u8 (x1 : Nat), .int .u8 (x2 : Nat), .int .u8 (x3 : Nat), .string s, .int .i64 (p : Nat), .string t, .slice a n c] 34) = W) := hW.symm
  have HG := hide hG.symm
  have G1 := hide hg
  have B1 := hide b1
  have HWs := hide hWs
  unfold Rc.arr
  clear hW hWs hG hg b1 hS hT hF hTl hTb h hfit hV hP hr
  go_enter Tryz.func81, Tryz.ntmps81
  go_wp2_with (first | (rw [HW.out, HG.out]))
  try (rw [HW.out, HG.out]; go_wp2_with fail)
  refine HK.out.mono ?_
  rintro e w1 ⟨v1, rfl, o1, k1⟩
  have g1 := keepB k1 G1.out
  have c1 : w1.cell? ⟨G, 1, none⟩ = some (.int .u8 (x0 : Nat)) := by simp [World.cell?, g1]
  have c2 : w1.cell? ⟨G, 2, none⟩ = some (.int .u8 (x1 : Nat)) := by simp [World.cell?, g1]
  have c3 : w1.cell? ⟨G, 3, none⟩ = some (.int .u8 (x2 : Nat)) := by simp [World.cell?, g1]
  have c4 : w1.cell? ⟨G, 4, none⟩ = some (.int .u8 (x3 : Nat)) := by simp [World.cell?, g1]
  have c5 : w1.cell? ⟨G, 5, none⟩ = some (.string s) := by simp [World.cell?, g1]
  have c6 : w1.cell? ⟨G, 6, none⟩ = some (.int .i64 (p : Nat)) := by simp [World.cell?, g1]
  have HH1 := hide (HH.out w1 k1)
  have K1 := hide (B1.out.trans (k1.mono B1.out.size))
  have O1 := hide o1
  have Z1 := hide k1.size
  clear g1 k1 o1 HK HH c8 G1
  go_wp2_with fail
  refine HH1.out.mono ?_
  rintro e w2 ⟨rfl, k2⟩
  have HV2 : Hid (∀ g, v1.ownBlock = some g → g < w2.heap.size) := fun g hg => by obtain ⟨_, cur, hh⟩ := (O1.out.below k2).block hg; exact lt_of_some hh
  have K2 := hide (K1.out.trans (k2.mono K1.out.size))
  have O2 := hide (O1.out.below k2)
  have Z2 := hide (Nat.le_trans Z1.out k2.size)
  clear k2 HH1 c1 c2 c3 c4 c5 c6 O1 K1 Z1
  obtain ⟨TB, hTB⟩ : ∃ TB, TB = strN T := ⟨_, rfl⟩
  rw [← hTB] at HTE ⊢
  obtain ⟨W3, hW3⟩ : ∃ W3, W3 = w2.alloc (.cells #[.string ⟨#[72, 111, 115, 116]⟩, .string TB, .string ⟨#[67, 111, 110, 110, 101, 99, 116, 105, 111, 110]⟩, .string ⟨#[99, 108, 111, 115, 101]⟩] 68) := ⟨_, rfl⟩
  have o3 := two_own TB w2
  rw [← hW3, HTE.out] at o3
  have b3 : Below w2.heap.size w2 W3 := by rw [hW3]; exact (Below.refl _ _).alloc (Nat.le_refl _) _
  have h3s : W3.heap.size = w2.heap.size + 1 := by rw [hW3]; simp
  have HW3 : Hid (w2.alloc (.cells #[.string ⟨#[72, 111, 115, 116]⟩, .string TB, .string ⟨#[67, 111, 110, 110, 101, 99, 116, 105, 111, 110]⟩, .string ⟨#[99, 108, 111, 115, 101]⟩] 68) = W3) := hW3.symm
  obtain ⟨G3, hG3⟩ : ∃ G3, G3 = w2.heap.size := ⟨_, rfl⟩
  have HG3 := hide hG3.symm
  rw [← hG3] at o3
  have K3 := hide (K2.out.trans (b3.mono K2.out.size))
  have O3 := hide o3
  have O23 := hide (O2.out.below b3)
  have Z3 : Hid (w.heap.size ≤ G3 ∧ W.heap.size ≤ W3.heap.size ∧ G3 < W3.heap.size) := ⟨by rw [hG3]; exact K2.out.size, by have := Z2.out; omega, by omega⟩
  clear hTB hW3 hG3 o3 b3 h3s K2 O2 Z2
  go_wp2_with (first | (rw [HW3.out, HG3.out]))
  try (rw [HW3.out, HG3.out]; go_wp2_with fail)
  refine (named_at _ W3).mono ?_
  rintro e w4 ⟨rfl, hw4⟩
  have b4 : Below W3.heap.size W3 w4 := by rw [hw4]; exact (Below.refl _ _).alloc (Nat.le_refl _) _
  have g4 : w4.heap[W3.heap.size]? = some (.cells #[.string ⟨#[72, 111, 115, 116]⟩] 9) := by rw [hw4]; exact alloc_new _ _
  have h4s : w4.heap.size = W3.heap.size + 1 := by rw [hw4]; simp
  obtain ⟨G4, hG4⟩ : ∃ G4, G4 = W3.heap.size := ⟨_, rfl⟩
  rw [← hG4] at g4 ⊢
  have HDL := hide (deleteX_at 142 (.pointer (some ⟨G4, 0, none⟩)) (isN hostN) W.heap.size v1 S.1 w4 (O23.out.below b4) HOB.out (by have := HL.out; omega) enters1 (fun W' x hx k => by
    have hc : W'.cell? ⟨G4, 0, none⟩ = some (.string ⟨#[72, 111, 115, 116]⟩) := by
      have hne : 0 < S.1.length := List.length_pos_of_mem hx
      obtain ⟨a', c', e', _, _⟩ := O23.out.src HOB.out
      rcases O23.out.2 with ⟨_, h0⟩ | ⟨g', cp, cur, hv, hx', hh, _⟩
      · omega
      have k' := k g' (by rw [hv]; rfl)
      have hlt := lt_of_some hh
      have := k'.at_ g4 (by omega) (by omega)
      simp [World.cell?, this]
    exact named1_at x _ _ W' hc (by decide) (HOB.out x hx) (HLN.out x (HSM.out x hx))) (by have := Z3.out; omega))
  have K4 := hide (K3.out.trans (b4.mono K3.out.size))
  have O4 := hide ((O3.out.below b4).base Z3.out.1)
  have HVB : Hid (∀ g, v1.ownBlock = some g → W.heap.size ≤ g ∧ g < G3) := fun g hg => ⟨(O23.out.block hg).1, by have := HG3.out; have := HV2.out g hg; omega⟩
  have Z4 : Hid (w.heap.size ≤ G3 ∧ W.heap.size ≤ w4.heap.size ∧ G3 < w4.heap.size) := ⟨Z3.out.1, by have := Z3.out; omega, by have := Z3.out; omega⟩
  clear hw4 b4 g4 h4s hG4 O23 O3 K3 HSM HLN HTE
  unfold namV
  go_wp2_with fail
  refine HDL.out.mono ?_
  rintro e w5 ⟨v2, rfl, o5, k5⟩
  have K5 := hide (K4.out.trans (k5.below (B := w.heap.size) (fun k hk => by have := (HVB.out k hk).1; have := HWs.out; omega) K4.out.size))
  have hob : okB (S.1.filter fun x => !isN hostN x) := fun x hx => HOB.out x (List.mem_filter.1 hx).1
  have hlf : (S.1.filter fun x => !isN hostN x).length ≤ 64 := Nat.le_trans (List.length_filter_le _ _) HL.out
  have o6 : OwnF w5 w.heap.size (.slice (some ⟨G3, 0, none⟩) 2 2) [(hostN, T), (connN, endV)] := O4.out.keep fun g hg => k5.block g (by have := Z4.out; simp [Value.ownBlock] at hg; omega) (fun hv => by have := (HVB.out g hv).2; simp [Value.ownBlock] at hg; omega)
  obtain ⟨a2, c2, rfl, s2, _⟩ := o5.src hob
  obtain ⟨v3, w6, hap, o7, k7⟩ := run_appF o6 s2 (by simp only [List.length_cons, List.length_nil]; omega) K5.out.size
  rw [← HSF.out] at o7
  have HAP := hide hap
  have O7 := hide o7
  have K7 := hide (K5.out.trans k7)
  obtain ⟨n2, hn2⟩ : ∃ n2, n2 = (S.1.filter fun x => !isN hostN x).length := ⟨_, rfl⟩
  rw [← hn2] at HAP ⊢
  clear k5 hob hlf o6 o5 s2 hap o7 k7 hn2 K5 K4 O4 HDL HOB HL HSF
  go_wp2_with (refine wpList_app_run _ rfl _ _ 32 32 rfl _ _ rfl rfl HAP.out ?_)
  go_ret
  exact ⟨_, rfl, O7.out, K7.out⟩
end Go.Proofs.YtccoddmdlbdfjaaGreatDoor

set_option linter.unusedSimpArgs false
set_option linter.unusedVariables false
namespace Go.Proofs.YtccoddmdlbdfjaaGreatDoor
open Go.RowKit

/-- What a builder's writing leaves as it is: blocks of other things than bytes and builders. -/
def KeptT (w w' : World) : Prop := ∀ (k : Nat) (old : Array Value) (t : TypeId) (fr : Nat × Nat), w.heap[k]? = some (.cells old t fr) → t ≠ 5 → t ≠ 138 → w'.heap[k]? = w.heap[k]?
theorem KeptT.refl (w : World) : KeptT w w := fun _ _ _ _ _ _ _ => rfl
theorem KeptT.trans {a b c : World} (h : KeptT a b) (k : KeptT b c) : KeptT a c := fun g old t fr hg h5 hb => by
  have e := h g old t fr hg h5 hb
  exact (k g old t fr (e.trans hg) h5 hb).trans e
theorem KeptT.of_below {w w' : World} (h : Below w.heap.size w w') : KeptT w w' := fun g old t fr hg _ _ => h.block g (lt_of_some hg)
theorem KeptT.setCell {w : World} {b : Nat} {old : Array Value} {fr : Nat × Nat} (h : w.heap[b]? = some (.cells old 138 fr)) (o : Nat) (v : Value) : KeptT w (w.setCell ⟨b, o, none⟩ v) := fun g old' t fr' hg _ hb => Below.heap_setCell _ _ _ _ (fun e => hb (by subst e; rw [h] at hg; cases hg; rfl))
theorem copyCheck2_at (B b : Nat) (bs : List Value) (w : World) (h : Lib.IsBuilder 138 5 B b bs w) : Calls Tryz.prog 118 #[.pointer (some ⟨b, 0, none⟩)] w fun e w' => e = .returned (.tuple #[]) ∧ (Lib.BuilderAt 138 5 B b (.pointer (some ⟨b, 0, none⟩)) bs w' ∧ Below B w w' ∧ KeptT w w') := by
  rcases h with h | h
  · refine (copyFresh b w h.cell0 h.shape h.frozen0).mono ?_
    rintro e w' ⟨rfl, rfl⟩
    obtain ⟨_, v, hb, _⟩ := id h
    exact ⟨rfl, h.used _, (Below.refl B w).setCell (p := ⟨b, 0, none⟩) h.1 _, KeptT.setCell hb 0 _⟩
  · refine (copyUsed b w h.cell0).mono ?_
    rintro e w' ⟨rfl, rfl⟩
    exact ⟨rfl, h, Below.refl B _, KeptT.refl _⟩
set_option maxHeartbeats 1000000 in
set_option maxRecDepth 100000 in
theorem writeString2_at (B b : Nat) (bs : List Value) (s : ByteArray) (w : World) (h : Lib.IsBuilder 138 5 B b bs w) (hlen : bs.length + s.size ≤ 140737488355328) (hBw : B ≤ w.heap.size) :
    Calls Tryz.prog 80 #[.pointer (some ⟨b, 0, none⟩), .string s] w fun e w' => e = .returned (.tuple #[.int .i64 s.size, .nilIface]) ∧ (Lib.IsBuilder 138 5 B b (bs ++ Lib.strCells s) w' ∧ Below B w w' ∧ KeptT w w') := by
  obtain ⟨i0, hi, hz0, hz1, hz2⟩ := info5p
  have HC := hide (copyCheck2_at B b bs w h)
  clear h
  go_enter Tryz.func80, Tryz.ntmps80
  go_wp2_with fail
  refine HC.out.mono ?_
  rintro e w1 ⟨rfl, h1, hb1, ht1⟩
  have HT1 := hide ht1
  obtain ⟨hB, v, hbk, hown, hne⟩ := h1
  have c0 : w1.cell? ⟨b, 0, none⟩ = some (.pointer (some ⟨b, 0, none⟩)) := by rw [Lib.cell_of_heap hbk]; rfl
  have c1 : w1.cell? ⟨b, 1, none⟩ = some v := by rw [Lib.cell_of_heap hbk]; rfl
  have HB1 := hide hb1
  have HBK := hide hbk
  have HNE := hide hne
  have HOW := hide hown
  clear hb1 hbk hne hown HC ht1
  go_wp2_with (at_builtin; refine Lib.wpList_append_own_string _ rfl _ _ 35 9 rfl B 5 i0 Tryz.underlying35 Tryz.underlying9 hi hz0 hz1 hz2 _ _ _ rfl HOW.out s rfl ?c3 ?c4 ?c5 ?_)
  case c3 => unfold maxLen; omega
  case c4 => omega
  case c5 => have := HB1.out.size; omega
  intro v' w2 hown' hgrow _
  have hlt : b < w1.heap.size := lt_of_some HBK.out
  have hb2 : w2.heap[b]? = some (.cells #[.pointer (some ⟨b, 0, none⟩), v] 138 (0, 0)) := by
    rw [hgrow.block b hlt (fun e => HNE.out e.symm)]
    exact HBK.out
  have d0 : w2.cell? ⟨b, 0, none⟩ = some (.pointer (some ⟨b, 0, none⟩)) := by rw [Lib.cell_of_heap hb2]; rfl
  have d1 : w2.cell? ⟨b, 1, none⟩ = some v := by rw [Lib.cell_of_heap hb2]; rfl
  have f1 : w2.frozen? ⟨b, 1, none⟩ = false := Lib.frozen_of_heap hb2 1
  obtain ⟨ao, n', cap, rfl⟩ : ∃ ao n' cap, v' = .slice ao n' cap := by
    rcases hown'.2 with ⟨hv, _⟩ | ⟨g, cap, cur, hv, _⟩
    · exact ⟨_, _, _, hv⟩
    · exact ⟨_, _, _, hv⟩
  have HO2 := hide hown'
  have HGR := hide hgrow
  have HB2 := hide hb2
  clear hown' hgrow hb2 hlt
  go_wp2
  go_ret2
  refine ⟨rfl, Or.inr ?_, ?_, ?_⟩
  · exact Lib.BuilderAt.put (T := 138) (e := 5) hB HB2.out (bs' := bs ++ Lib.strCells s) (by simpa [Lib.strCells_length] using HO2.out) (by decide)
  · exact (HB1.out.grown HGR.out (by have := HB1.out.size; omega) (fun k hk => (HOW.out.lt k hk).1)).setCell (p := ⟨b, 1, none⟩) hB _
  · have hgr : KeptT w1 w2 := fun k old t fr hk h5 hb => HGR.out.block k (lt_of_some hk) (fun e => by
      rcases HOW.out.2 with ⟨rfl, _⟩ | ⟨x, cp, cur, rfl, hx, hh, _⟩
      · cases e
      · simp [Value.ownBlock] at e
        subst e
        rw [hh] at hk
        cases hk
        exact h5 rfl)
    exact HT1.out.trans (hgr.trans (KeptT.setCell HB2.out 1 _))
end Go.Proofs.YtccoddmdlbdfjaaGreatDoor

set_option linter.unusedSimpArgs false
set_option linter.unusedVariables false
namespace Go.Proofs.YtccoddmdlbdfjaaGreatDoor
open Go.RowKit

theorem byt_app2 (A B : ByteArray) : byt (A ++ B) = byt A ++ byt B := by simp [byt]
set_option maxRecDepth 100000 in
set_option maxHeartbeats 4000000 in
theorem sentOn_at (r : Rc) (a : Option Addr) (n c : Nat) (fs : List Fd) (w : World) (hr : r.Ok) (h : SrcF w a n c fs) (hfit : Fit fs) (hV : Vars w) (hP : Pow w) :
    Calls Tryz.prog 50 #[.agg (r.arr (.slice a n c))] w fun e w' => ∃ b d, e = .returned (.slice b (sent r.to (byt r.t) fs).length d) ∧ Src w' b (sent r.to (byt r.t) fs).length d (sent r.to (byt r.t) fs) ∧ Below w.heap.size w w' := by
  obtain ⟨hTl, hTb⟩ := r.to_len hr
  have HSF : Hid (∀ W, Below w.heap.size w W → Calls Tryz.prog 81 #[.agg (r.arr (.slice a n c))] W fun e w' => ∃ v, e = .returned v ∧ OwnF w' W.heap.size v (sentF r.to fs) ∧ Below W.heap.size W w') := fun W k => sentFields_at r a n c fs W hr (h.below k) hfit (hV.below k) (hP.below k)
  have HOB : Hid (okB (sentF r.to fs)) := sentFd_byte hfit h.byte hTb
  have HLN : Hid (∀ f ∈ sentF r.to fs, f.1.length ≤ 64 ∧ f.2.length ≤ 4096) := fun f hf => sentFd_lens hfit hTl hf
  have HL : Hid ((sentF r.to fs).length ≤ 66) := sentFd_len hfit
  have hts := hr.ht
  have HST : Hid (sent r.to (byt r.t) fs = fl (sentL (byt r.t) :: (sentF r.to fs).map fline)) := rfl
  obtain ⟨FS, hFS⟩ : ∃ FS, FS = sentF r.to fs := ⟨_, rfl⟩
  obtain ⟨X, hX⟩ : ∃ X, X = sent r.to (byt r.t) fs := ⟨_, rfl⟩
  rw [← hFS] at HSF HOB HLN HL HST
  rw [← hX] at HST ⊢
  obtain ⟨W1, hW1⟩ : ∃ W, W = w.alloc (.cells (r.arr (.slice a n c)) 34) := ⟨_, rfl⟩
  obtain ⟨W2, hW2⟩ : ∃ W, W = W1.alloc (.cells #[.pointer none, .slice none 0 0] 138) := ⟨_, rfl⟩
  obtain ⟨G, hG⟩ : ∃ G, G = w.heap.size := ⟨_, rfl⟩
  obtain ⟨bb, hbb⟩ : ∃ b, b = W1.heap.size := ⟨_, rfl⟩
  have b1 : Below w.heap.size w W1 := by rw [hW1]; exact (Below.refl _ _).alloc (Nat.le_refl _) _
  have b2 : Below w.heap.size w W2 := by rw [hW2]; exact b1.alloc b1.size _
  obtain ⟨m, x0, x1, x2, x3, s, p, t⟩ := r
  unfold Rc.arr at HSF hW1 ⊢
  simp only at HSF hW1 HST hts ⊢
  have hg : W2.heap[G]? = some (.cells #[.string m, .int .u8 (x0 : Nat), .int .u8 (x1 : Nat), .int .u8 (x2 : Nat), .int .u8 (x3 : Nat), .string s, .int .i64 (p : Nat), .string t, .slice a n c] 34) := by rw [hW2, hW1, hG]; exact alloc_old _ (alloc_new _ _)
  have hbld : Lib.IsBuilder 138 5 w.heap.size bb [] W2 := Or.inl ⟨by rw [hbb]; exact b1.size, .slice none 0 0, by rw [hW2, hbb]; exact alloc_new _ _, ⟨rfl, Or.inl ⟨rfl, rfl⟩⟩, by simp [Value.ownBlock]⟩
  have c7 : W2.cell? ⟨G, 7, none⟩ = some (.string t) := by simp [World.cell?, hg]
  obtain ⟨Y, hY⟩ : ∃ Y, Y = (⟨#[71, 69, 84, 32]⟩ : ByteArray) ++ t ++ ⟨#[32]⟩ ++ ⟨#[72, 84, 84, 80, 47, 49, 46, 49]⟩ ++ ⟨#[13, 10]⟩ := ⟨_, rfl⟩
  have hYb : byt Y = sentL (byt t) ++ [13, 10] := by
    rw [hY, byt_app2, byt_app2, byt_app2, byt_app2]
    simp [byt, sentL, getM, v11]
  have hYs : Y.size = t.size + 15 := by rw [← byt_length, hYb, ← byt_length t]; simp [sentL, getM, v11]
  have HS1 := hide (writeString2_at w.heap.size bb [] Y W2 hbld (by rw [hYs]; simp; omega) b2.size)
  rw [strCells_byt, List.nil_append, hYb] at HS1
  have n1 : ¬ (9223372036854775807 < 4 + t.size) := by omega
  have n2 : ¬ (9223372036854775807 < 4 + t.size + 1) := by omega
  have n3 : ¬ (9223372036854775807 < 4 + t.size + 1 + 8) := by omega
  have n4 : ¬ (9223372036854775807 < 4 + t.size + 1 + 8 + 2) := by omega
  have HY : Hid ((⟨#[71, 69, 84, 32]⟩ : ByteArray) ++ t ++ ⟨#[32]⟩ ++ ⟨#[72, 84, 84, 80, 47, 49, 46, 49]⟩ ++ ⟨#[13, 10]⟩ = Y) := hY.symm
  have HW : Hid ((w.alloc (.cells #[.string m, .int .u8 (x0 : Nat), .int .u8 (x1 : Nat), .int .u8 (x2 : Nat), .int .u8 (x3 : Nat), .string s, .int .i64 (p : Nat), .string t, .slice a n c] 34)).alloc (.cells #[.pointer none, .slice none 0 0] 138) = W2) := by show _ = _; rw [hW2, hW1]
  have HG := hide hG.symm
  have HBB : Hid (w.heap.size + 1 = bb) := by show _ = _; rw [hbb, hW1]; simp
  have HTL : Hid ((byt t).length ≤ 10000) := by show _ ≤ _; rw [byt_length]; exact hts
  have G2 := hide hg
  have B2 := hide b2
  have HXB : Hid (∀ y ∈ fl (sentL (byt t) :: FS.map fline), y < 256) := by
    refine fl_lt _ ?_
    intro l hl y hy
    rcases List.mem_cons.1 hl with rfl | hl
    · unfold sentL at hy
      simp only [List.mem_append, List.mem_cons] at hy
      rcases hy with hy | rfl | hy | rfl | hy
      · exact (by decide : ∀ x ∈ getM, x < 256) y hy
      · omega
      · exact byt_lt t y hy
      · omega
      · exact (by decide : ∀ x ∈ v11, x < 256) y hy
    · obtain ⟨f, hf, rfl⟩ := List.mem_map.1 hl
      have hbf := HOB.out f hf
      unfold fline at hy
      simp only [List.mem_append, List.mem_cons] at hy
      rcases hy with hy | rfl | rfl | hy
      · exact hbf.1 y hy
      · omega
      · omega
      · exact hbf.2 y hy
  clear hFS hX hW1 hW2 hG hbb b1 b2 hg hbld hY hYb hYs hts h hfit hV hP hr hTl hTb
  go_enter Tryz.func50, Tryz.ntmps50
  go_wp2_with fail
  rw [HW.out, HBB.out, HG.out, HY.out]
  refine HS1.out.mono ?_
  rintro e w3 ⟨rfl, hb3, k3, t3⟩
  have g3 : w3.heap[G]? = some (.cells #[.string m, .int .u8 (x0 : Nat), .int .u8 (x1 : Nat), .int .u8 (x2 : Nat), .int .u8 (x3 : Nat), .string s, .int .i64 (p : Nat), .string t, .slice a n c] 34) := (t3 G _ _ _ G2.out (by decide) (by decide)).trans G2.out
  have d0 : w3.cell? ⟨G, 0, none⟩ = some (.string m) := by simp [World.cell?, g3]
  have d1 : w3.cell? ⟨G, 1, none⟩ = some (.int .u8 (x0 : Nat)) := by simp [World.cell?, g3]
  have d2 : w3.cell? ⟨G, 2, none⟩ = some (.int .u8 (x1 : Nat)) := by simp [World.cell?, g3]
  have d3 : w3.cell? ⟨G, 3, none⟩ = some (.int .u8 (x2 : Nat)) := by simp [World.cell?, g3]
  have d4 : w3.cell? ⟨G, 4, none⟩ = some (.int .u8 (x3 : Nat)) := by simp [World.cell?, g3]
  have d5 : w3.cell? ⟨G, 5, none⟩ = some (.string s) := by simp [World.cell?, g3]
  have d6 : w3.cell? ⟨G, 6, none⟩ = some (.int .i64 (p : Nat)) := by simp [World.cell?, g3]
  have d7 : w3.cell? ⟨G, 7, none⟩ = some (.string t) := by simp [World.cell?, g3]
  have d8 : w3.cell? ⟨G, 8, none⟩ = some (.slice a n c) := by simp [World.cell?, g3]
  have K3 := hide (B2.out.trans k3)
  have HSF3 := hide (HSF.out w3 K3.out)
  have HB3 := hide hb3
  clear g3 hb3 k3 t3 c7 HS1 HSF G2 B2 HY HW HG HBB n1 n2 n3 n4
  go_wp2_with fail
  refine HSF3.out.mono ?_
  rintro e w4 ⟨v, rfl, o4, k4⟩
  have K4 := hide (K3.out.trans (k4.mono K3.out.size))
  have HB4 := hide (bld_below HB3.out k4)
  have HBK : Hid (∀ g, v.ownBlock = some g → ∃ cur, w4.heap[g]? = some (.cells cur 68)) := fun g hg => (o4.block hg).2
  obtain ⟨a2, c2, rfl, s4, _⟩ := o4.src HOB.out
  have HSRC : Hid (∀ W, KeptT w4 W → w4.heap.size ≤ W.heap.size → SrcF W a2 FS.length c2 FS) := fun W kt hs => s4.keep (fun h0 b o e => by
    subst e
    obtain ⟨cur, hc⟩ := HBK.out b (by
      rcases o4.2 with ⟨hv, _⟩ | ⟨x, cp, cur, hv, _⟩
      · cases hv
      · simp only [Value.slice.injEq, Option.some.injEq, Addr.mk.injEq] at hv
        rw [hv.1.2.1]; rfl)
    exact kt b _ _ _ hc (by decide) (by decide)) hs
  have hcl := s4.hcap
  have hmx := s4.hmax
  unfold maxLen at hmx
  obtain ⟨N, hN⟩ : ∃ N, N = FS.length := ⟨_, rfl⟩
  rw [← hN] at hcl HL HSRC ⊢
  have hN66 : N ≤ 66 := HL.out
  have HNL := hide hN
  clear o4 k4 s4 hN HSF3 HB3 K3 d0 d1 d2 d3 d4 d5 d6 d7 d8 HBK HL
  go_wp2_with fail
  obtain ⟨L, hL⟩ : ∃ L, L = sentL (byt t) := ⟨_, rfl⟩
  have HLL : Hid (L.length ≤ 10020) := by show _ ≤ _; rw [hL]; have := HTL.out; simp [sentL, getM, v11]; omega
  rw [← hL] at HXB HST HB4
  clear hL HTL
  have HB5 : Hid (Lib.IsBuilder 138 5 w.heap.size bb (nums .u8 (fla (L :: (FS.take 0).map fline))) w4) := by
    have e1 : fla (L :: (FS.take 0).map fline) = L ++ [13, 10] := by simp [fla]
    show Lib.IsBuilder _ _ _ _ _ _
    rw [e1]; exact HB4.out
  clear HB4
  go_loopw [16] (fun i wr => ∃ j : Nat, j ≤ N ∧ i = .int .i64 j ∧ Hid (Lib.IsBuilder 138 5 w.heap.size bb (nums .u8 (fla (L :: (FS.take j).map fline))) wr ∧ (fla (L :: (FS.take j).map fline)).length ≤ 10022 + j * 5000 ∧ Below w.heap.size w wr) ∧ Hid (KeptT w4 wr ∧ w4.heap.size ≤ wr.heap.size)) (fun i _ => N - (intOf i).toNat)
  case atStart => exact ⟨0, by omega, rfl, ⟨HB5.out, by have := HLL.out; simp [fla]; omega, K4.out⟩, KeptT.refl _, Nat.le_refl _⟩
  case round =>
    obtain ⟨j, hj, rfl, HI, HT⟩ := hrel
    by_cases hjn : j < N
    · have hdk : decide ((j : Int) < (N : Int)) = true := decide_eq_true (by omega)
      have s1 := HSRC.out wr HT.out.1 HT.out.2
      obtain ⟨b, o, rfl, c0, c1⟩ := s1.at_ hjn
      rw [Nat.mul_comm 2 j] at c0 c1
      have hjl : j < FS.length := by rw [← HNL.out]; exact hjn
      have hmem : FS.getD j ([], []) ∈ FS := getD_mem hjl
      have hby := HOB.out _ hmem
      have hfl := HLN.out _ hmem
      have HSN := hide (fla_snoc L FS j hjl)
      obtain ⟨f, hf⟩ : ∃ f, f = FS.getD j ([], []) := ⟨_, rfl⟩
      rw [← hf] at c0 c1 hby hfl HSN
      obtain ⟨p', q⟩ := f
      simp only at c0 c1 hby hfl HSN
      have hpb := byt_strN p' hby.1
      have hqb := byt_strN q hby.2
      have hps := strN_size p'
      have hqs := strN_size q
      obtain ⟨P, hP⟩ : ∃ x, x = strN p' := ⟨_, rfl⟩
      obtain ⟨R, hR⟩ : ∃ x, x = strN q := ⟨_, rfl⟩
      rw [← hP] at c0 hpb hps
      rw [← hR] at c1 hqb hqs
      obtain ⟨Y, hY⟩ : ∃ Y, Y = P ++ ⟨#[58, 32]⟩ ++ R ++ ⟨#[13, 10]⟩ := ⟨_, rfl⟩
      have hYb : byt Y = p' ++ ([58, 32] ++ (q ++ [13, 10])) := by
        rw [hY, byt_app2, byt_app2, byt_app2, hpb, hqb]
        simp [byt]
      have hYs : Y.size ≤ 4164 := by
        rw [← byt_length, hYb]; simp; omega
      have n1 : ¬ (9223372036854775807 < P.size + 2) := by omega
      have n2 : ¬ (9223372036854775807 < P.size + 2 + R.size) := by omega
      have n3 : ¬ (9223372036854775807 < P.size + 2 + R.size + 2) := by omega
      have HY : Hid (P ++ ⟨#[58, 32]⟩ ++ R ++ ⟨#[13, 10]⟩ = Y) := hY.symm
      obtain ⟨G, hG⟩ : ∃ G, G = wr.heap.size := ⟨_, rfl⟩
      obtain ⟨W1, hW1⟩ : ∃ W, W = wr.alloc (.cells #[.string P, .string R] 68) := ⟨_, rfl⟩
      have b1 : Below wr.heap.size wr W1 := by rw [hW1]; exact (Below.refl _ _).alloc (Nat.le_refl _) _
      have g1 : W1.heap[G]? = some (.cells #[.string P, .string R] 68) := by rw [hW1, hG]; exact alloc_new _ _
      have B1 := hide (HI.out.2.2.trans (b1.mono HI.out.2.2.size))
      have T1 : Hid (KeptT w4 W1 ∧ w4.heap.size ≤ W1.heap.size) := ⟨HT.out.1.trans (KeptT.of_below b1), Nat.le_trans HT.out.2 b1.size⟩
      have HW1 : Hid (wr.alloc (.cells #[.string P, .string R] 68) = W1) := hW1.symm
      have HG := hide hG.symm
      have e0 : W1.cell? ⟨G, 0, none⟩ = some (.string P) := by simp [World.cell?, g1]
      have e1 : W1.cell? ⟨G, 1, none⟩ = some (.string R) := by simp [World.cell?, g1]
      have hbld := bld_below HI.out.1 b1
      have HS1 := hide (writeString2_at w.heap.size bb _ Y W1 hbld (by rw [nums_length]; have := HI.out.2.1; omega) B1.out.size)
      rw [strCells_byt, hYb, ← nums_append, ← HSN.out] at HS1
      have HLN2 : Hid ((fla (L :: (FS.take (j + 1)).map fline)).length ≤ 10022 + (j + 1) * 5000) := by
        show _ ≤ _
        have h2 := HI.out.2.1
        rw [HSN.out, List.length_append, ← hYb, byt_length]
        omega
      clear hjl hmem hby hfl hf hP hR hpb hqb hps hqs hYb hYs hY s1 hG hW1 b1 g1 hbld HT HI
      go_wp2_with (first | (rw [HW1.out, HG.out]))
      try (rw [HW1.out, HG.out]; go_wp2_with fail)
      rw [HY.out]
      refine HS1.out.mono ?_
      rintro e w5 ⟨rfl, hb5, k5, t5⟩
      have B3 := hide (B1.out.trans k5)
      have T3 : Hid (KeptT w4 w5 ∧ w4.heap.size ≤ w5.heap.size) := ⟨T1.out.1.trans t5, Nat.le_trans T1.out.2 k5.size⟩
      have HB6 := hide hb5
      clear hb5 k5 t5 HS1 B1 T1
      go_wp2_with fail
      go_roundw
      case rel => exact ⟨j + 1, by omega, by go_num, ⟨HB6.out, HLN2.out, B3.out⟩, T3.out⟩
      case measure => simp [intOf]; omega
    · have hdk : decide ((j : Int) < (N : Int)) = false := decide_eq_false (by omega)
      obtain ⟨hI1, hI2, hI3⟩ := HI.out
      rw [List.take_of_length_le (by rw [← HNL.out]; omega)] at hI1 hI2
      have HS1 := hide (writeString2_at w.heap.size bb _ ⟨#[13, 10]⟩ wr hI1 (by rw [nums_length]; show _ + 2 ≤ _; omega) hI3.size)
      rw [strCells_byt, ← nums_append, show byt ⟨#[13, 10]⟩ = [13, 10] from rfl] at HS1
      have HFL : Hid (fla (L :: FS.map fline) ++ [13, 10] = fl (L :: FS.map fline)) := rfl
      rw [HFL.out] at HS1
      have HXL : Hid (X.length ≤ 1000000) := by
        show _ ≤ _
        rw [HST.out, ← HFL.out, List.length_append]
        simp only [List.length_cons, List.length_nil]
        omega
      have B3 := hide hI3
      clear hI1 hI2 hI3 HI HT
      go_wp2_with fail
      refine HS1.out.mono ?_
      rintro e w5 ⟨rfl, hb5, k5, _⟩
      have B4 := hide (B3.out.trans k5)
      have hb5' : Lib.IsBuilder 138 5 w.heap.size bb (Lib.byteCells ((fl (L :: FS.map fline)).map UInt8.ofNat)) w5 := by rw [byteCells_nums _ HXB.out]; exact hb5
      have HSS := hide (Tryz.Builder_String_any w.heap.size bb _ w5 hb5' B4.out.size)
      have hst : (⟨((fl (L :: FS.map fline)).map UInt8.ofNat).toArray⟩ : ByteArray) = strN (fl (L :: FS.map fline)) := rfl
      rw [hst, ← HST.out] at HSS
      have HBY := hide (byt_strN _ HXB.out)
      rw [← HST.out] at HBY
      clear hb5 k5 hb5' hst HS1 HFL
      go_wp2_with fail
      refine HSS.out.mono ?_
      rintro e w6 ⟨rfl, k6⟩
      obtain ⟨cap, W6, hcv, hs6, hb6⟩ := conv_src (strN X) w6 (by rw [strN_size]; have := HXL.out; unfold maxLen; omega)
      rw [HBY.out, strN_size] at hs6
      have b5 := B4.out.trans k6
      have B6 := hide (b5.trans (hb6.mono b5.size))
      have S6 := hide hs6
      rw [strN_size] at hcv
      clear hs6 hb6 b5 k6 HSS
      go_wp2_with fail
      go_ret
      exact ⟨_, _, rfl, S6.out, B6.out⟩
end Go.Proofs.YtccoddmdlbdfjaaGreatDoor
