/-
  The digest of a chain's next link ('Chain' of package digest); conditions as each theorem has them.
-/
import Derived.Test.YtaibdmmacncejaaDoorW
import Derived.Deep.DrawnRows
import Derived.Lib.ConvBytes
set_option linter.unusedSimpArgs false
set_option linter.unusedVariables false
namespace Go.Proofs.YtaibdmmacncejaaDoor
open Go.RowKit

/-- An array of 32 cells can be stored there. -/
def canPut (w : World) : Value → Value → Bool
  | .pointer (some ⟨g, 0, none⟩), .agg cs => (match w.heap[g]? with | some (.cells old 24 (0, 0)) => old.size == 32 | _ => false) && cs.size == 32 && cs.all (·.oneCell')
  | _, _ => false
def putAt (w : World) : Value → Value → World
  | .pointer (some ⟨g, 0, none⟩), .agg cs => w.setRow g cs
  | _, _ => w
theorem putAt_ptr (w : World) (g : Nat) (cs : Array Value) : putAt w (.pointer (some ⟨g, 0, none⟩)) (.agg cs) = w.setRow g cs := rfl
theorem canPut_row {w : World} {g : Nat} {old cs : Array Value} (h : w.heap[g]? = some (.cells old 24)) (ho : old.size = 32) (hc : cs.size = 32) (h1 : cs.all (·.oneCell') = true) : canPut w (.pointer (some ⟨g, 0, none⟩)) (.agg cs) = true := by
  simp only [canPut, h]
  rw [h1, Bool.and_true, Bool.and_eq_true, beq_iff_eq, beq_iff_eq]
  exact ⟨ho, hc⟩
theorem run_opst24 (ρ : Operand → Value) (dst : Option Tmp) (x y : Operand) (ty : TypeId) (pos : String) (after : Array Edge) (guard : Option (Nat × Bool)) (w : World) (h : canPut w (ρ x) (ρ y) = true) :
    (execOp ρ { dst, op := .store 24 x y, type := ty, pos, after, guard }).run Tryd.prog w = .ok .skip (putAt w (ρ x) (ρ y)) := by
  unfold canPut at h
  split at h
  · rename_i g cs e1 e2
    simp only [Bool.and_eq_true, beq_iff_eq] at h
    obtain ⟨⟨h0, h1⟩, h3⟩ := h
    split at h0
    · rename_i old hg
      have hs : old.size = 32 := by simpa using h0
      have := run_storeVar_row (P := Tryd.prog) w g 24 24 old cs hg (by rw [h1]; exact info24) (by omega) h3
      unfold execOp
      simp only [e1, e2, Instr.storeAt, Instr.sureAddr, Sem.run_bind, Sem.run_pure, Result.andThen_ok, this, putAt]
    · cases h0
  · cases h
attribute [local go_sem ↓] run_opst24 Go.wp_at_zero Go.wp_at_succ
attribute [local go_sem] putAt_ptr

theorem byt_get (t : ByteArray) (j : Nat) : (byt t).getD j 0 = (t.data.toList.getD j 0).toNat := by
  simp only [byt, List.getD, List.getElem?_map]
  cases t.data.toList[j]? <;> rfl
theorem src_bytes (w : World) (t : ByteArray) (hm : grownCap w t.size 0 5 ≤ maxLen) (hc : t.size ≤ grownCap w t.size 0 5) : Src (Lib.bytesWorld w 5 t) (some ⟨w.heap.size, 0, none⟩) t.size (grownCap w t.size 0 5) (byt t) :=
  ⟨byt_length t, hc, hm, fun e => (by cases e), fun _ => ⟨_, 0, rfl, by rw [Lib.bytesWorld_size]; omega, fun i hi => by rw [Nat.zero_add, Lib.bytesWorld_cell w 5 t i hi, byt_get]⟩, byt_lt t⟩
theorem below_bytes (w : World) (t : ByteArray) : Below w.heap.size w (Lib.bytesWorld w 5 t) :=
  ⟨rfl, rfl, rfl, by rw [Lib.bytesWorld_size]; omega, fun k hk => Lib.bytesWorld_at_old w 5 t k hk⟩
theorem three_parts {X : World} {a b c : Option Addr} {la ca lb cb lc cc : Nat} {x y z : List Nat} (h1 : Src X a la ca x) (h2 : Src X b lb cb y) (h3 : Src X c lc cc z) :
    Parts (X.alloc (.cells #[.slice a la ca, .slice b lb cb, .slice c lc cc] 28)) (some ⟨X.heap.size, 0, none⟩) 3 3 [x, y, z] := by
  have bb : Below X.heap.size X (X.alloc (.cells #[.slice a la ca, .slice b lb cb, .slice c lc cc] 28)) := (Below.refl _ _).alloc (Nat.le_refl _) _
  have hr := Row.new X #[.slice a la ca, .slice b lb cb, .slice c lc cc] 28
  refine ⟨rfl, Nat.le_refl _, by unfold maxLen; omega, fun e => (by cases e), fun _ => ⟨_, 0, rfl, hr.lt, fun i hi => ?_⟩⟩
  match i, hi with
  | 0, _ => exact ⟨_, _, _, hr.cell 0, h1.below bb⟩
  | 1, _ => exact ⟨_, _, _, hr.cell 1, h2.below bb⟩
  | 2, _ => exact ⟨_, _, _, hr.cell 2, h3.below bb⟩
theorem three_at {X : World} {a b c : Option Addr} {la ca lb cb lc cc N : Nat} {x y z : List Nat} (hN : X.heap.size = N) (h1 : Src X a la ca x) (h2 : Src X b lb cb y) (h3 : Src X c lc cc z) :
    Parts (X.alloc (.cells #[.slice a la ca, .slice b lb cb, .slice c lc cc] 28)) (some ⟨N, 0, none⟩) 3 3 [x, y, z] := by subst hN; exact three_parts h1 h2 h3
theorem run_all24 (g : Nat) (w : World) : (Instr.sliceAt 24 (.pointer (some ⟨g, 0, none⟩)) none none none).run Tryd.prog w = .ok (.slice (some ⟨g, 0, none⟩) 32 32) w := by
  rw [run_sliceAt_array_all w 24 ⟨g, 0, none⟩ und24, size24, len24]
  rfl

/-- The bytes of a link. -/
def link (s : List Nat) (t : ByteArray) : List Nat := s ++ hf t.size 4 ++ byt t
theorem hf_byte (x n : Nat) : ∀ y ∈ hf x n, y < 256 := by
  intro y hy
  simp only [hf, List.mem_map] at hy
  obtain ⟨i, _, rfl⟩ := hy
  omega
theorem row24_src {w : World} {g : Nat} {s : List Nat} (h : Row w g 24 (nums .u8 s)) (hs : s.length = 32) (hb : ∀ x ∈ s, x < 256) : Src w (some ⟨g, 0, none⟩) 32 32 s :=
  ⟨hs, Nat.le_refl _, by unfold maxLen; omega, fun e => (by cases e), fun _ => ⟨g, 0, rfl, h.lt, fun i hi => by rw [Nat.zero_add]; exact h.num0 (by omega)⟩, hb⟩

/-- The box of s, the cell of the answer, the tables. -/
structure CS (w0 : World) (s : List Nat) (X : World) : Prop where
  box : Row X w0.heap.size 24 (nums .u8 s)
  cell : Row X (w0.heap.size + 1) 24 z32.toList
  tabs : Tabs X
  bel : Below w0.heap.size w0 X
theorem CS.below {w0 : World} {s : List Nat} {X X' : World} (h : CS w0 s X) (k : Below X.heap.size X X') : CS w0 s X' :=
  ⟨h.box.below k h.box.lt, h.cell.below k h.cell.lt, h.tabs.below k h.tabs.size, h.bel.trans (k.mono h.bel.size)⟩
theorem CS.drew {w0 : World} {s : List Nat} {X : World} (h : CS w0 s X) : CS w0 s X.drew := ⟨h.box, h.cell, h.tabs.keep rfl rfl, ⟨h.bel.os, h.bel.tape, h.bel.output, h.bel.size, h.bel.block⟩⟩

set_option maxRecDepth 100000 in
set_option maxHeartbeats 4000000 in
theorem chain_at (s : List Nat) (t : ByteArray) (w : World) (hT : Tabs w) (hs : s.length = 32) (hb : ∀ x ∈ s, x < 256) (hm : t.size < 1000000000000) :
    Calls Tryd.prog 21 #[.agg (nums .u8 s).toArray, .string t] w fun e w' => e = .returned (.agg (nums .u8 (dig (link s t))).toArray) ∧ Below w.heap.size w w' := by
  have h2 := hT.size
  obtain ⟨C, hC⟩ : ∃ C, C = (nums .u8 s).toArray := ⟨_, rfl⟩
  rw [← hC]
  obtain ⟨V, hV⟩ : ∃ V, V = (nums .u8 (dig (link s t))).toArray := ⟨_, rfl⟩
  rw [← hV]
  obtain ⟨L, hL⟩ : ∃ L, L = t.size := ⟨_, rfl⟩
  have hLt : L < 1000000000000 := by omega
  have hts : t.size = L := hL.symm
  have hz24 := zero24
  obtain ⟨W1, hW1⟩ : ∃ W1, W1 = (w.alloc (.cells C 24)).alloc (.cells z32 24) := ⟨_, rfl⟩
  have hA1 : (w.alloc (.cells C 24)).alloc (.cells z32 24) = W1 := hW1.symm
  have b1 : Below w.heap.size w W1 := by rw [hW1]; exact ((Below.refl _ _).alloc (Nat.le_refl _) _).alloc (by simp) _
  have c1 : CS w s W1 := ⟨by rw [hW1, hC]; exact (Row.new w (nums .u8 s).toArray 24).alloc _, by rw [hW1]; exact alloc_new2 _ _ _, hT.below b1 h2, b1⟩
  have hC1 : C.all (·.oneCell') = true := by rw [hC]; exact nums_all _ _
  have hCs : C.size = 32 := by rw [hC]; simp [nums, hs]
  have hVs : V.size = 32 := by rw [hV]; simp [nums, dig_length]
  have hV1 : V.all (·.oneCell') = true := by rw [hV]; exact nums_all _ _
  have HS := hide c1
  have hall := run_all24 w.heap.size
  have hcv := fun w => Lib.run_convert_string_bytes (P := Tryd.prog) w 9 28 5 t Tryd.underlying9 Tryd.underlying28 Tryd.underlying5
  rw [hts] at hcv
  have hbs := fun w => Lib.bytesWorld_size w 5 t
  have hLw : IntKind.u64.wrap (L : Int) = L := by simp [IntKind.wrap, IntKind.signed, IntKind.bits]; omega
  have HSUM : Hid (∀ (W : World) (N : Nat), Tabs W → Parts W (some ⟨N, 0, none⟩) 3 3 [s, hf L 4, byt t] → Calls Tryd.prog 9 #[.slice (some ⟨N, 0, none⟩) 3 3] W fun e w' => e = .returned (.agg V) ∧ Below W.heap.size W w') := fun W N h1 h3 => by
    have e : [s, hf L 4, byt t].flatten = link s t := by simp [link, hts]
    have := sum_at (some ⟨N, 0, none⟩) 3 3 _ W h1 h3 (by rw [e, link, List.length_append, List.length_append, hf_length, byt_length]; omega)
    rw [e, ← hV] at this
    exact this
  have HSB : Hid (∀ W : World, Src (Lib.bytesWorld W 5 t) (some ⟨W.heap.size, 0, none⟩) L (grownCap W L 0 5) (byt t)) := fun W => by
    have := src_bytes W t (grownCap_le_maxLen _ _ _ _ (by unfold maxLen; omega)) (grownCap_ge _ _ _ _)
    rw [hts] at this
    exact this
  have HBW : Hid (∀ W : World, Below W.heap.size W (Lib.bytesWorld W 5 t)) := fun W => below_bytes W t
  have HBox : Hid (∀ W, CS w s W → Src W (some ⟨w.heap.size, 0, none⟩) 32 32 s) := fun W h => row24_src h.box hs hb
  have HCP : Hid (∀ W, CS w s W → canPut W (.pointer (some ⟨w.heap.size + 1, 0, none⟩)) (.agg V) = true) := fun W h => canPut_row (old := z32) h.cell rfl hVs hV1
  have H31 : Hid (∀ W : World, Calls Tryd.prog 31 #[.int .u64 L, .int .i64 4] W fun e w' => e = .returned (.slice (some ⟨W.heap.size, 0, none⟩) 4 4) ∧ Src w' (some ⟨W.heap.size, 0, none⟩) 4 4 (hf L 4) ∧ Below W.heap.size W w') := fun W => by
    refine (hf_at L 4 W (by omega) (by omega)).mono ?_
    rintro e w' ⟨rfl, r, b⟩
    exact ⟨rfl, r.src (hf_byte _ _) (by rw [hf_length]) (by unfold maxLen; omega), b⟩
  have HA : Hid (∀ (X : World) (g : Nat), CS w s X → Src X (some ⟨g, 0, none⟩) 4 4 (hf L 4) → Calls Tryd.prog 9 #[.slice (some ⟨X.heap.size + 1, 0, none⟩) 3 3] ((Lib.bytesWorld X 5 t).alloc (.cells #[.slice (some ⟨w.heap.size, 0, none⟩) 32 32, .slice (some ⟨g, 0, none⟩) 4 4, .slice (some ⟨X.heap.size, 0, none⟩) L (grownCap X L 0 5)] 28)) fun e w' => e = .returned (.agg V) ∧ CS w s w') := fun X g h hg => by
    have hx := h.below (HBW.out X)
    have bl : Below (Lib.bytesWorld X 5 t).heap.size (Lib.bytesWorld X 5 t) ((Lib.bytesWorld X 5 t).alloc (.cells #[.slice (some ⟨w.heap.size, 0, none⟩) 32 32, .slice (some ⟨g, 0, none⟩) 4 4, .slice (some ⟨X.heap.size, 0, none⟩) L (grownCap X L 0 5)] 28)) := (Below.refl _ _).alloc (Nat.le_refl _) _
    refine (HSUM.out _ _ (hx.below bl).tabs (three_at (hbs X) (HBox.out _ hx) (hg.below (HBW.out X)) (HSB.out X))).mono ?_
    rintro e w' ⟨rfl, b⟩
    exact ⟨rfl, (hx.below bl).below b⟩
  have HB : Hid (∀ (X : World) (g h c : Nat), CS w s X → Src X (some ⟨g, 0, none⟩) 4 4 (hf L 4) → Src X (some ⟨h, 0, none⟩) L c (byt t) → Calls Tryd.prog 9 #[.slice (some ⟨X.heap.size, 0, none⟩) 3 3] (X.alloc (.cells #[.slice (some ⟨w.heap.size, 0, none⟩) 32 32, .slice (some ⟨g, 0, none⟩) 4 4, .slice (some ⟨h, 0, none⟩) L c] 28)) fun e w' => e = .returned (.agg V) ∧ CS w s w') := fun X g h c hx hg hh => by
    have bl : Below X.heap.size X (X.alloc (.cells #[.slice (some ⟨w.heap.size, 0, none⟩) 32 32, .slice (some ⟨g, 0, none⟩) 4 4, .slice (some ⟨h, 0, none⟩) L c] 28)) := (Below.refl _ _).alloc (Nat.le_refl _) _
    refine (HSUM.out _ _ (hx.below bl).tabs (three_parts (HBox.out _ hx) hg hh)).mono ?_
    rintro e w' ⟨rfl, b⟩
    exact ⟨rfl, (hx.below bl).below b⟩
  have HVs := hide hVs
  clear hT hC hV hL b1 hW1 c1 hs hb hV1 hVs
  go_enter Tryd.func21, Tryd.ntmps21
  go_wp2_with fail
  go_region_with (first
    | (go_at_call 31; refine (H31.out _).mono ?_; rintro e w8 ⟨rfl, r8, b8⟩; first
        | (have HS := hide (show CS w s w8 by with_reducible exact HS.out.drew.below b8); have G9 : Hid (Src w8 (some ⟨W1.heap.size, 0, none⟩) 4 4 (hf L 4)) := r8; clear r8 b8)
        | (have HS := hide (show CS w s w8 by with_reducible exact (HS.out.drew.below (HBW.out W1.drew)).below b8); rw [hbs] at r8; have G11 : Hid (Src w8 (some ⟨W1.heap.size, 0, none⟩) L (grownCap W1.drew L 0 5) (byt t)) := ((HSB.out W1.drew).below b8); have G9 : Hid (Src w8 (some ⟨W1.heap.size + 1, 0, none⟩) 4 4 (hf L 4)) := r8; clear r8 b8))
    | (go_at_call 9; first
        | (refine (HB.out _ _ _ _ HS.out G9.out G11.out).mono ?_; rintro e w9 ⟨rfl, b9⟩; have HS := hide b9; have cp := HCP.out _ HS.out; clear b9)
        | (refine (HA.out _ _ HS.out G9.out).mono ?_; rintro e w9 ⟨rfl, b9⟩; have HS := hide b9; have cp := HCP.out _ HS.out; clear b9)))
  all_goals
    clear cp
    go_wp2_with fail
    refine bodyPost_ret (results_cell_row rfl _ _ (w.heap.size + 1) 24 V _ _ rfl (setRow_heap _ _ _ _ _ _ HS.out.cell) Tryd.underlying24 rfl (by rw [HVs.out]; exact info24)) rfl ⟨rfl, ?_⟩
    exact HS.out.bel.trans (((Kept.refl (w.heap.size + 1) (w.heap.size + 1) _).setRow (Or.inl rfl) _).below (by omega) (by omega) HS.out.bel.size)

theorem hf4d (x : Nat) : hf x 4 = [x / 16777216 % 256, x / 65536 % 256, x / 256 % 256, x % 256] := by
  simp [hf, List.range, List.range.loop]

set_option maxRecDepth 100000 in
set_option maxHeartbeats 4000000 in
theorem rchain_at (s : List Nat) (t : ByteArray) (w : World) (hT : Tabs w) (hs : s.length = 32) (hb : ∀ x ∈ s, x < 256) (hm : t.size < 100000000000) :
    Calls Tryd.prog 22 #[.agg (nums .u8 s).toArray, .string t] w fun e w' => e = .returned (.agg (nums .u8 (dig (link s t))).toArray) ∧ Below w.heap.size w w' := by
  have h2 := hT.size
  obtain ⟨C, hC⟩ : ∃ C, C = (nums .u8 s).toArray := ⟨_, rfl⟩
  rw [← hC]
  obtain ⟨V, hV⟩ : ∃ V, V = (nums .u8 (dig (link s t))).toArray := ⟨_, rfl⟩
  rw [← hV]
  obtain ⟨L, hL⟩ : ∃ L, L = t.size := ⟨_, rfl⟩
  have hLt : L < 100000000000 := by omega
  have hts : t.size = L := hL.symm
  have hz24 := zero24
  obtain ⟨W1, hW1⟩ : ∃ W1, W1 = (w.alloc (.cells C 24)).alloc (.cells z32 24) := ⟨_, rfl⟩
  have hA1 : (w.alloc (.cells C 24)).alloc (.cells z32 24) = W1 := hW1.symm
  have b1 : Below w.heap.size w W1 := by rw [hW1]; exact ((Below.refl _ _).alloc (Nat.le_refl _) _).alloc (by simp) _
  have c1 : CS w s W1 := ⟨by rw [hW1, hC]; exact (Row.new w (nums .u8 s).toArray 24).alloc _, by rw [hW1]; exact alloc_new2 _ _ _, hT.below b1 h2, b1⟩
  have hC1 : C.all (·.oneCell') = true := by rw [hC]; exact nums_all _ _
  have hCs : C.size = 32 := by rw [hC]; simp [nums, hs]
  have hVs : V.size = 32 := by rw [hV]; simp [nums, dig_length]
  have hV1 : V.all (·.oneCell') = true := by rw [hV]; exact nums_all _ _
  obtain ⟨W2, hW2⟩ : ∃ W2, W2 = W1.alloc (.cells #[] 5) := ⟨_, rfl⟩
  have hA2 : W1.alloc (.cells #[] 5) = W2 := hW2.symm
  have b2 : Below W1.heap.size W1 W2 := by rw [hW2]; exact (Below.refl _ _).alloc (Nat.le_refl _) _
  have c2 := c1.below b2
  have o2 : Own W2 W1.heap.size (.slice (some ⟨W1.heap.size, 0, none⟩) 0 0) [] := by rw [hW2]; exact own_new W1
  obtain ⟨v3, W3, hap, o3, b3⟩ := run_app 28 o2 (row24_src c2.box hs hb) (by simp) b2.size
  rw [List.nil_append] at o3
  have s12 := b2.size
  have hsl := c1.cell.lt
  have c3 : CS w s W3 := ⟨c2.box.below b3 (by omega), c2.cell.below b3 hsl, c2.tabs.below b3 (by have := c1.tabs.size; exact this), c2.bel.trans (b3.mono c1.bel.size)⟩
  obtain ⟨a3, k3, rfl, s3, _⟩ := own_src o3 hb
  rw [hs] at s3 hap
  obtain ⟨y0, hy0⟩ : ∃ y, y = L / 16777216 % 256 := ⟨_, rfl⟩
  obtain ⟨y1, hy1⟩ : ∃ y, y = L / 65536 % 256 := ⟨_, rfl⟩
  obtain ⟨y2, hy2⟩ : ∃ y, y = L / 256 % 256 := ⟨_, rfl⟩
  obtain ⟨y3, hy3⟩ : ∃ y, y = L % 256 := ⟨_, rfl⟩
  have p0 : (L : Int) / 16777216 % 256 = y0 := by omega
  have p1 : (L : Int) / 65536 % 256 = y1 := by omega
  have p2 : (L : Int) / 256 % 256 = y2 := by omega
  have p3 : (L : Int) % 256 = y3 := by omega
  have hy : hf L 4 = [y0, y1, y2, y3] := by rw [hf4d, hy0, hy1, hy2, hy3]
  obtain ⟨W4, hW4⟩ : ∃ W4, W4 = W3.alloc (.cells #[.int .u8 (y0 : Nat), .int .u8 (y1 : Nat), .int .u8 (y2 : Nat), .int .u8 (y3 : Nat)] 5) := ⟨_, rfl⟩
  have hA4 : W3.alloc (.cells #[.int .u8 (y0 : Nat), .int .u8 (y1 : Nat), .int .u8 (y2 : Nat), .int .u8 (y3 : Nat)] 5) = W4 := hW4.symm
  have b4 : Below W3.heap.size W3 W4 := by rw [hW4]; exact (Below.refl _ _).alloc (Nat.le_refl _) _
  have r4 : Row W4 W3.heap.size 5 (nums .u8 (hf L 4)) := by rw [hW4, hy]; exact Row.new W3 #[.int .u8 (y0 : Nat), .int .u8 (y1 : Nat), .int .u8 (y2 : Nat), .int .u8 (y3 : Nat)] 5
  have s4 := r4.src (hf_byte _ _) (n := 4) (by rw [hf_length]) (by unfold maxLen; omega)
  have c4 := c3.below b4
  have hcv0 := Lib.run_convert_string_bytes (P := Tryd.prog) W4 9 28 5 t Tryd.underlying9 Tryd.underlying28 Tryd.underlying5
  have sb := src_bytes W4 t (grownCap_le_maxLen _ _ _ _ (by unfold maxLen; omega)) (grownCap_ge _ _ _ _)
  rw [hts] at hcv0 sb
  have b5 := below_bytes W4 t
  obtain ⟨W5, hW5⟩ : ∃ W5, W5 = Lib.bytesWorld W4 5 t := ⟨_, rfl⟩
  obtain ⟨k5, hk5⟩ : ∃ k, k = grownCap W4 L 0 5 := ⟨_, rfl⟩
  rw [← hW5, ← hk5] at sb hcv0
  rw [← hW5] at b5
  have c5 := c4.below b5
  have bl : Below W5.heap.size W5 (W5.alloc (.cells #[.slice a3 32 k3, .slice (some ⟨W3.heap.size, 0, none⟩) 4 4, .slice (some ⟨W4.heap.size, 0, none⟩) L k5] 28)) := (Below.refl _ _).alloc (Nat.le_refl _) _
  have hsum : Calls Tryd.prog 10 #[.slice (some ⟨W5.heap.size, 0, none⟩) 3 3] (W5.alloc (.cells #[.slice a3 32 k3, .slice (some ⟨W3.heap.size, 0, none⟩) 4 4, .slice (some ⟨W4.heap.size, 0, none⟩) L k5] 28)) fun e w' => e = .returned (.agg V) ∧ CS w s w' := by
    have e : [s, hf L 4, byt t].flatten = link s t := by simp [link, hts]
    have hq := rsum_at (some ⟨W5.heap.size, 0, none⟩) 3 3 _ _ (three_parts ((s3.below b4).below b5) (s4.below b5) sb) (by rw [e, link, List.length_append, List.length_append, hf_length, byt_length]; omega)
    rw [e, ← hV] at hq
    refine hq.mono ?_
    rintro e w' ⟨rfl, b⟩
    exact ⟨rfl, (c5.below bl).below b⟩
  have HSUM := hide hsum
  have HAP := hide hap
  have HVs := hide hVs
  have HV1 := hide hV1
  have hall := run_all24 w.heap.size
  have hls : L = t.size := hL
  clear hT hC hV hL b1 hW1 c1 hs hb hV1 hVs hW2 b2 c2 o2 hap o3 b3 c3 s3 hy0 hy1 hy2 hy3 hy hW4 b4 r4 s4 c4 sb b5 hW5 c5 bl hsum s12 hsl hk5 hls
  go_enter Tryd.func22, Tryd.ntmps22
  go_wp2_with (refine wpList_app_run _ rfl _ _ 28 28 rfl _ _ rfl rfl HAP.out ?_)
  refine HSUM.out.mono ?_
  rintro e w9 ⟨rfl, b9⟩
  obtain ⟨W7, hW7⟩ : ∃ W7, W7 = w9.setRow (w.heap.size + 1) V := ⟨_, rfl⟩
  have HROW : Hid (W7.heap[w.heap.size + 1]? = some (.cells V 24)) := by rw [hW7]; exact setRow_heap _ _ _ _ _ _ b9.cell
  have HW7 := hide hW7
  have HS := hide b9
  clear hW7 b9
  go_wp2_with (refine wpList_store_rowW rfl 24 _ _ rfl (w.heap.size + 1) V rfl rfl 24 z32 HS.out.cell (by rw [HVs.out]; exact info24) (by rw [HVs.out]; rfl) HV1.out W7 HW7.out ?_)
  refine bodyPost_ret (results_cell_row rfl _ _ (w.heap.size + 1) 24 V _ _ rfl HROW.out Tryd.underlying24 rfl (by rw [HVs.out]; exact info24)) rfl ⟨rfl, ?_⟩
  rw [HW7.out]
  exact HS.out.bel.trans (((Kept.refl (w.heap.size + 1) (w.heap.size + 1) w9).setRow (Or.inl rfl) _).below (by omega) (by omega) HS.out.bel.size)
end Go.Proofs.YtaibdmmacncejaaDoor
