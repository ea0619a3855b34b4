/-
  DigestBack's walk, and what Hex and Parse are to each other; conditions as each theorem has them.
-/
import Derived.Test.YtaibdmmacncejaaDoorL
import Derived.Stop.BytesEq
set_option linter.unusedSimpArgs false
set_option linter.unusedVariables false
namespace Go.Proofs.YtaibdmmacncejaaDoor
open Go.RowKit

theorem unhx_hx (q : Nat) (h : q < 16) : unhx (hx q) = some q := by
  have : ∀ q : Fin 16, unhx (hx q.val) = some q.val := by decide
  exact this ⟨q, h⟩
theorem hx_unhx {c a : Nat} (h : unhx c = some a) : hx a = c := by
  unfold unhx at h
  unfold hx
  split at h
  · simp at h; subst h; rw [if_pos (by omega)]; omega
  · split at h
    · simp at h; subst h; rw [if_neg (by omega)]; omega
    · cases h
theorem hexOf_at : ∀ (s : List Nat) (k : Nat), k < s.length → (hexOf s).getD (2 * k) 0 = hx (s.getD k 0 / 16) ∧ (hexOf s).getD (2 * k + 1) 0 = hx (s.getD k 0 % 16)
  | [], k, h => by simp at h
  | b :: t, 0, h => by simp [hexOf]
  | b :: t, k + 1, h => by
    have := hexOf_at t k (by simpa using h)
    rw [show 2 * (k + 1) = 2 * k + 1 + 1 by omega]
    simpa [hexOf] using this
theorem hexOf_byte (s : List Nat) (h : ∀ x ∈ s, x < 256) : ∀ x ∈ hexOf s, x < 256 := by
  induction s with
  | nil => intro x hx; cases hx
  | cons b t ih =>
    intro x hx'
    have hb := h b (by simp)
    simp only [hexOf, List.mem_cons] at hx'
    rcases hx' with rfl | rfl | hx'
    · exact hx_lt (by omega)
    · exact hx_lt (by omega)
    · exact ih (fun y hy => h y (by simp [hy])) x hx'
theorem pre_hex (s : List Nat) (h : ∀ x ∈ s, x < 256) : ∀ k, k ≤ s.length → pre (hexOf s) k = some (s.take k)
  | 0, _ => rfl
  | k + 1, hk => by
    obtain ⟨e1, e2⟩ := hexOf_at s k (by omega)
    have hl : k < s.length := by omega
    have hb := getD_lt h k
    have hp : pk (hexOf s) k = some (s.getD k 0) := by
      rw [pk, e1, e2, unhx_hx _ (by omega), unhx_hx _ (by omega)]
      simp only [Option.some.injEq]
      omega
    rw [pre, pre_hex s h k (by omega), hp, List.take_succ_eq_append_getElem hl]
    simp [List.getD, List.getElem?_eq_getElem hl]
theorem pres_hex (s : List Nat) (hs : s.length = 32) (h : ∀ x ∈ s, x < 256) : pres (byt (strN (hexOf s))) = (s, 0) := by
  rw [byt_strN _ (hexOf_byte s h), pres, if_pos (by rw [hexOf_length, hs]), pre_hex s h 32 (by omega), List.take_of_length_le (by omega)]
theorem hex_pre (l : List Nat) : ∀ (k : Nat) (m : List Nat), pre l k = some m → 2 * k ≤ l.length → hexOf m = l.take (2 * k)
  | 0, m, h, _ => by simp [pre] at h; subst h; simp [hexOf]
  | k + 1, m, h, hl => by
    rw [pre] at h
    split at h
    · rename_i m' x e1 e2
      simp at h
      subst h
      rw [hexOf_append, hex_pre l k m' e1 (by omega)]
      unfold pk at e2
      split at e2
      · rename_i a b h1 h2
        simp at e2
        subst e2
        have la := unhx_lt h1
        have lb := unhx_lt h2
        have g1 := hx_unhx h1
        have g2 := hx_unhx h2
        rw [show 2 * (k + 1) = 2 * k + 1 + 1 by omega, List.take_succ_eq_append_getElem (show 2 * k + 1 < l.length by omega), List.take_succ_eq_append_getElem (show 2 * k < l.length by omega)]
        rw [hexOf, hexOf, show (a * 16 + b) / 16 = a by omega, show (a * 16 + b) % 16 = b by omega, g1, g2]
        rw [List.getD, List.getD, List.getElem?_eq_getElem (show 2 * k + 1 < l.length by omega), List.getElem?_eq_getElem (show 2 * k < l.length by omega), List.append_assoc]
        rfl
      · cases e2
    · cases h
theorem pre_byte (l : List Nat) : ∀ (k : Nat) (m : List Nat), pre l k = some m → ∀ x ∈ m, x < 256
  | 0, m, h => by simp [pre] at h; subst h; simp
  | k + 1, m, h => by
    rw [pre] at h
    split at h
    · rename_i m' x e1 e2
      simp at h
      subst h
      intro y hy
      rcases List.mem_append.1 hy with hy | hy
      · exact pre_byte l k m' e1 y hy
      · simp at hy
        subst hy
        unfold pk at e2
        split at e2
        · rename_i a b h1 h2
          simp at e2
          have la := unhx_lt h1
          have lb := unhx_lt h2
          omega
        · cases e2
    · cases h
/-- Of what Parse tells: it is refused, and tells zeros; or it tells 32 bytes, whose text it is. -/
theorem pres_or (t : ByteArray) : pres (byt t) = (List.replicate 32 0, 2) ∨ ∃ m, pres (byt t) = (m, 0) ∧ m.length = 32 ∧ (∀ x ∈ m, x < 256) ∧ strN (hexOf m) = t := by
  unfold pres
  split
  · rename_i h
    cases e : pre (byt t) 32 with
    | none => exact Or.inl rfl
    | some m =>
      refine Or.inr ⟨m, rfl, pre_length _ _ _ e, pre_byte _ _ _ e, ?_⟩
      rw [hex_pre _ _ _ e (by omega), List.take_of_length_le (by omega), strN_byt]
  · exact Or.inl rfl

theorem nums_cell (l : List Nat) (h : ∀ x ∈ l, x < 256) : nums .u8 l = (l.map UInt8.ofNat).map Extern.Stop.cell := by
  simp only [nums, List.map_map]
  apply List.map_congr_left
  intro x hx
  have := h x hx
  simp only [Function.comp, Extern.Stop.cell]
  congr 1
  simp
  omega
theorem run_eq24 (l : List Nat) (hl : l.length = 32) (h : ∀ x ∈ l, x < 256) (w : World) : (Op.equalIn 10000 24 (.agg (nums .u8 l).toArray) (.agg (nums .u8 l).toArray)).run Tryd.prog w = .ok true w := by
  rw [nums_cell l h]
  have := run_equalIn_bytes (P := Tryd.prog) w 9998 24 5 32 (by kernel_rfl) Tryd.underlying5 (fun w => by kernel_rfl) (l.map UInt8.ofNat) (l.map UInt8.ofNat) (by simp [hl]) (by simp [hl])
  rw [this]
  simp
theorem guard24 : Tryd.prog.eqGuardType Tryd.prog.depth 24 = false := by kernel_rfl

/-- A whole row is loaded, in an operation that its guard lets by. -/
theorem wpList_load_rowG {P : Program} {ops : Array Oper} {rest : List Oper} {o : Oper} {a : Act} {w : World} {Q : Exit → Act → World → Prop} (hgd : Region.wanted o (yielded ops a.tmps) = true) (ty : TypeId) (x : Operand) (ho : o.op = .load ty x)
    (g : Nat) (hx : a.eval x = .pointer (some ⟨g, 0, none⟩)) (t : TypeId) (cs : Array Value) (fr : Nat × Nat) (d : TypeDesc) (hg : w.heap[g]? = some (.cells cs t fr))
    (hu : P.underlying ty = some d) (hd : (match d with | .struct _ | .array _ _ => true | _ => false) = true) (hi : (P.info? ty).map (·.size) = some cs.size)
    (h : wpList P ops Q rest (a.put o.dst (.agg cs)) w) : wpList P ops Q (o :: rest) a w :=
  BigFrame.wpList_want hgd fun _ hK => wp_load_row ty x ho g hx t cs fr d hg hu hd hi (hK _ _ h)
theorem wpList_builtG {P : Program} {ops : Array Oper} {rest : List Oper} {o : Oper} {a : Act} {w : World} {Q : Exit → Act → World → Prop} (hgd : Region.wanted o (yielded ops a.tmps) = true) (t : TypeId) (parts : Array (Nat × Operand)) (ho : o.op = .build t parts) (cells : Array Value)
    (hb : P.built t (parts.map fun (i, x) => (i, a.eval x)).toList = some cells) (h : wpList P ops Q rest (a.put o.dst (.agg cells)) w) : wpList P ops Q (o :: rest) a w :=
  BigFrame.wpList_want hgd fun _ hK => wp_build t parts ho (by rw [hb]; rfl) (by rw [hb]; exact hK _ _ h)

/-- The block g holds the 32 bytes V, as an array. -/
abbrev Arr (w : World) (g : Nat) (V : Array Value) : Prop := w.heap[g]? = some (.cells V 24)

set_option maxRecDepth 100000 in
set_option maxHeartbeats 2000000 in
theorem back_walk (s : List Nat) (t : ByteArray) (w : World) (hT : Tabs w) (hs : s.length = 32) (hb : ∀ x ∈ s, x < 256) (hm : t.size ≤ maxLen) :
    Calls Tryd.prog 6 #[.agg (nums .u8 s).toArray, .string t] w fun e w' => e = .returned (.bool true) ∧ Below w.heap.size w w' := by
  have h2 := hT.size
  obtain ⟨V, hV⟩ : ∃ V, V = (nums .u8 s).toArray := ⟨_, rfl⟩
  have hVs : V.size = 32 := by rw [hV]; simp [nums, hs]
  have hV1 : V.all (·.oneCell') = true := by rw [hV]; exact nums_all _ _
  have heq := fun w => run_eq24 s hs hb w
  have hhex := fun w => hex_at s w hs hb
  obtain ⟨T, hT'⟩ : ∃ T, T = strN (hexOf s) := ⟨_, rfl⟩
  have hps := pres_hex s hs hb
  rw [← hT'] at hhex hps
  have hTs : T.size ≤ maxLen := by
    rw [hT', ← byt_length, byt_strN _ (hexOf_byte s hb), hexOf_length, hs]; unfold maxLen; omega
  have hpar := fun w => parse_at T w hTs
  rw [hps] at hpar
  simp only at hpar
  rw [← hV] at heq hhex hpar ⊢
  have HT := hide hT
  have HVs := hide hVs
  have HV1 := hide hV1
  have HHEX := hide hhex
  have HPAR := hide hpar
  have hz := zero24
  have hgd := guard24
  obtain ⟨W1, hW1⟩ : ∃ W1, W1 = w.alloc (.cells V 24) := ⟨_, rfl⟩
  have hAl : w.alloc (.cells V 24) = W1 := hW1.symm
  have a1 : Arr W1 w.heap.size V := by rw [hW1]; exact alloc_new _ _
  have b1 : Below w.heap.size w W1 := by rw [hW1]; exact (Below.refl _ _).alloc (Nat.le_refl _) _
  have s1 : W1.heap.size = w.heap.size + 1 := by rw [hW1]; simp
  have A1 := hide a1
  have B1 := hide b1
  clear hT hVs hV1 hhex hpar hV hT' hps hTs hs hb hW1 a1 b1
  go_enter Tryd.func6, Tryd.ntmps6
  go_wp2_with fail
  refine (works_at _ (HT.out.below B1.out h2)).mono ?_
  rintro e w2 ⟨rfl, b2⟩
  have A2 : Hid (Arr w2 w.heap.size V) := (b2.block _ (by omega)).trans A1.out
  have B2 : Hid (Below w.heap.size w w2) := B1.out.trans (b2.mono (by omega))
  have s2 := b2.size
  clear b2 A1 B1
  go_wp2_with (refine wpList_load_row rfl 24 _ rfl w.heap.size rfl 24 V _ _ A2.out Tryd.underlying24 rfl ?_ ?_; (rw [HVs.out]; exact info24))
  refine (HHEX.out _).mono ?_
  rintro e w3 ⟨rfl, b3⟩
  have A3 : Hid (Arr w3 w.heap.size V) := (b3.block _ (by omega)).trans A2.out
  have B3 : Hid (Below w.heap.size w w3) := B2.out.trans (b3.mono (by omega))
  have s3 := b3.size
  clear b3 A2 B2
  go_wp2_with fail
  refine (HPAR.out _).mono ?_
  rintro e w4 ⟨rfl, b4⟩
  have s4 := b4.size
  obtain ⟨G, hG⟩ : ∃ G, G = w4.heap.size := ⟨_, rfl⟩
  obtain ⟨W5, hW5⟩ : ∃ W5, W5 = (w4.alloc (.cells z32 24)).setRow G V := ⟨_, rfl⟩
  have k5 : Below G w4 W5 := by rw [hW5]; exact (((Kept.refl G G w4).alloc _).setRow (Or.inl rfl) _).below (Nat.le_refl _) (Nat.le_refl _) (by omega)
  have hn5 : (w4.alloc (.cells z32 24)).heap[G]? = some (.cells z32 24) := by rw [hG]; exact alloc_new _ _
  have A5 : Hid (Arr W5 w.heap.size V) := ((k5.block _ (by omega)).trans (b4.block _ (by omega))).trans A3.out
  have C5 : Hid (Arr W5 G V) := by rw [hW5]; exact setRow_heap _ _ _ _ _ _ hn5
  have B5 : Hid (Below w.heap.size w W5) := (B3.out.trans (b4.mono (by omega))).trans (k5.mono (by omega))
  have s5 : W5.heap.size = G + 1 := by rw [hW5, hG]; simp
  have HN5 := hide hn5
  have HW5 := hide hW5
  have hGl : w.heap.size + 1 ≤ G := by omega
  have HG := hide hG
  clear b4 A3 B3 k5 hn5 hW5 s4 hAl hG
  go_wp2_with (refine wpList_store_rowW rfl 24 _ _ rfl G V (by show Value.pointer _ = _; rw [HG.out]) rfl 24 z32 HN5.out (by rw [HVs.out]; exact info24) (by rw [HVs.out]; rfl) HV1.out W5 HW5.out ?_)
  rw [← HG.out]
  rcases pres_or t with hp | ⟨m, hp, hml, hmb, hmt⟩
  · have hpt := fun w => parse_at t w hm
    rw [hp] at hpt
    have ez : (nums .u8 (List.replicate 32 0)).toArray = z32 := rfl
    rw [ez] at hpt
    have hez : ∀ w, (Op.equalIn 10000 24 (.agg z32) (.agg z32)).run Tryd.prog w = .ok true w := fun w => run_eq24 (List.replicate 32 0) (by simp) (fun x hx => by rw [List.eq_of_mem_replicate hx]; omega) w
    have HPT := hide hpt
    clear hpt hp ez
    refine (HPT.out _).mono ?_
    rintro e w6 ⟨rfl, b6⟩
    have s6 := b6.size
    obtain ⟨F, hF⟩ : ∃ F, F = w6.heap.size := ⟨_, rfl⟩
    obtain ⟨W7, hW7⟩ : ∃ W7, W7 = (w6.alloc (.cells z32 24)).setRow F z32 := ⟨_, rfl⟩
    have k7 : Below F w6 W7 := by rw [hW7]; exact (((Kept.refl F F w6).alloc _).setRow (Or.inl rfl) _).below (Nat.le_refl _) (Nat.le_refl _) (by omega)
    have hn7 : (w6.alloc (.cells z32 24)).heap[F]? = some (.cells z32 24) := by rw [hF]; exact alloc_new _ _
    have A7 : Hid (Arr W7 w.heap.size V) := ((k7.block _ (by omega)).trans (b6.block _ (by omega))).trans A5.out
    have C7 : Hid (Arr W7 G V) := ((k7.block _ (by omega)).trans (b6.block _ (by omega))).trans C5.out
    have D7 : Hid (Arr W7 F z32) := by rw [hW7]; exact setRow_heap _ _ _ _ _ _ hn7
    have B7 : Hid (Below w.heap.size w W7) := (B5.out.trans (b6.mono (by omega))).trans (k7.mono (by omega))
    have HN7 := hide hn7
    have HW7 := hide hW7
    have HF := hide hF
    clear b6 k7 hn7 hW7 hF
    go_wp2_with (first
      | (refine wpList_store_rowW rfl 24 _ _ rfl F z32 (by show Value.pointer _ = _; rw [HF.out]) rfl 24 z32 HN7.out info24 rfl z32_one W7 HW7.out ?_; (rw [← HF.out]))
      | (refine wpList_load_row rfl 24 _ rfl w.heap.size rfl 24 V _ _ A7.out Tryd.underlying24 rfl ?_ ?_; (rw [HVs.out]; exact info24))
      | (refine wpList_load_row rfl 24 _ rfl G rfl 24 V _ _ C7.out Tryd.underlying24 rfl ?_ ?_; (rw [HVs.out]; exact info24))
      | (refine wpList_load_rowG rfl 24 _ rfl F rfl 24 z32 _ _ D7.out Tryd.underlying24 rfl info24 ?_)
      | (refine wpList_builtG rfl 24 _ rfl z32 ?_ ?_; (simp [Act.eval]; exact built24)))
    go_ret
    exact ⟨rfl, B7.out⟩
  · have hpt := fun w => parse_at t w hm
    rw [hp] at hpt
    simp only at hpt
    obtain ⟨M, hM⟩ : ∃ M, M = (nums .u8 m).toArray := ⟨_, rfl⟩
    have hMs : M.size = 32 := by rw [hM]; simp [nums, hml]
    have hM1 : M.all (·.oneCell') = true := by rw [hM]; exact nums_all _ _
    have hht := fun w => hex_at m w hml hmb
    rw [hmt, ← hM] at hht
    rw [← hM] at hpt
    have HPT := hide hpt
    have HHT := hide hht
    have HMs := hide hMs
    have HM1 := hide hM1
    clear hpt hp hM hMs hM1 hht hml hmb hmt
    refine (HPT.out _).mono ?_
    rintro e w6 ⟨rfl, b6⟩
    have s6 := b6.size
    obtain ⟨F, hF⟩ : ∃ F, F = w6.heap.size := ⟨_, rfl⟩
    obtain ⟨W7, hW7⟩ : ∃ W7, W7 = (w6.alloc (.cells z32 24)).setRow F M := ⟨_, rfl⟩
    have k7 : Below F w6 W7 := by rw [hW7]; exact (((Kept.refl F F w6).alloc _).setRow (Or.inl rfl) _).below (Nat.le_refl _) (Nat.le_refl _) (by omega)
    have hn7 : (w6.alloc (.cells z32 24)).heap[F]? = some (.cells z32 24) := by rw [hF]; exact alloc_new _ _
    have A7 : Hid (Arr W7 w.heap.size V) := ((k7.block _ (by omega)).trans (b6.block _ (by omega))).trans A5.out
    have C7 : Hid (Arr W7 G V) := ((k7.block _ (by omega)).trans (b6.block _ (by omega))).trans C5.out
    have D7 : Hid (Arr W7 F M) := by rw [hW7]; exact setRow_heap _ _ _ _ _ _ hn7
    have B7 : Hid (Below w.heap.size w W7) := (B5.out.trans (b6.mono (by omega))).trans (k7.mono (by omega))
    have s7 : w.heap.size ≤ W7.heap.size := B7.out.size
    have HN7 := hide hn7
    have HW7 := hide hW7
    have HF := hide hF
    clear b6 k7 hn7 hW7 hF
    go_wp2_with (first
      | (refine wpList_store_rowW rfl 24 _ _ rfl F M (by show Value.pointer _ = _; rw [HF.out]) rfl 24 z32 HN7.out (by rw [HMs.out]; exact info24) (by rw [HMs.out]; rfl) HM1.out W7 HW7.out ?_; (rw [← HF.out]))
      | (refine wpList_load_row rfl 24 _ rfl w.heap.size rfl 24 V _ _ A7.out Tryd.underlying24 rfl ?_ ?_; (rw [HVs.out]; exact info24))
      | (refine wpList_load_row rfl 24 _ rfl G rfl 24 V _ _ C7.out Tryd.underlying24 rfl ?_ ?_; (rw [HVs.out]; exact info24))
      | (refine wpList_load_rowG rfl 24 _ rfl F rfl 24 M _ _ D7.out Tryd.underlying24 rfl (by rw [HMs.out]; exact info24) ?_))
    refine (HHT.out _).mono ?_
    rintro e w8 ⟨rfl, b8⟩
    have B8 : Hid (Below w.heap.size w w8) := B7.out.trans (b8.mono s7)
    clear b8
    go_wp2_with fail
    go_ret
    refine ⟨?_, B8.out⟩
    first | rfl | simp
end Go.Proofs.YtaibdmmacncejaaDoor
