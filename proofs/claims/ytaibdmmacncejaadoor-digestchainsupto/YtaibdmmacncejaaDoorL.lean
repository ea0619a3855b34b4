/-
  What a text stands for ('Parse' of package digest); conditions as each theorem has them.
-/
import Derived.Test.YtaibdmmacncejaaDoorK
set_option linter.unusedSimpArgs false
set_option linter.unusedVariables false
namespace Go.Proofs.YtaibdmmacncejaaDoor
open Go.RowKit

/-- A text as numbers. -/
def byt (t : ByteArray) : List Nat := t.data.toList.map UInt8.toNat
theorem byt_length (t : ByteArray) : (byt t).length = t.size := by show (t.data.toList.map _).length = t.data.size; simp
theorem byt_lt (t : ByteArray) : ∀ x ∈ byt t, x < 256 := by
  intro x hx
  simp only [byt, List.mem_map] at hx
  obtain ⟨c, _, rfl⟩ := hx
  exact c.toNat_lt
theorem strN_byt (t : ByteArray) : strN (byt t) = t := by
  simp only [strN, byt, List.map_map]
  have : (UInt8.ofNat ∘ UInt8.toNat) = id := by funext x; simp
  rw [this, List.map_id]
theorem byt_strN (l : List Nat) (h : ∀ x ∈ l, x < 256) : byt (strN l) = l := by
  simp only [strN, byt, List.map_map]
  conv => rhs; rw [← List.map_id l]
  apply List.map_congr_left
  intro x hx
  have := h x hx
  simp
  omega
/-- 't[i]'. -/
theorem run_ixstr (t : ByteArray) (i : Nat) (hi : i < t.size) (w : World) : (Instr.index 9 (.string t) (.int .i64 i)).run Tryd.prog w = .ok (.int .u8 ((byt t).getD i 0 : Nat)) w := by
  rw [run_index_string w 9 _ .i64 _ Tryd.underlying9, dif_pos ⟨by omega, by omega⟩]
  have e : ((i : Int)).toNat = i := by omega
  simp only [e]
  congr 3
  have h' : i < t.data.toList.length := by rw [Array.length_toList]; exact hi
  rw [byt, List.getD, List.getElem?_map, List.getElem?_eq_getElem h']
  rfl

/-- The byte that the k-th two digits stand for. -/
def pk (l : List Nat) (k : Nat) : Option Nat :=
  match unhx (l.getD (2 * k) 0), unhx (l.getD (2 * k + 1) 0) with
  | some a, some b => some (a * 16 + b)
  | _, _ => none
/-- The first k bytes. -/
def pre (l : List Nat) : Nat → Option (List Nat)
  | 0 => some []
  | k + 1 => match pre l k, pk l k with
    | some m, some x => some (m ++ [x])
    | _, _ => none
theorem pre_length (l : List Nat) : ∀ (k : Nat) (m : List Nat), pre l k = some m → m.length = k
  | 0, m, h => by simp [pre] at h; subst h; rfl
  | k + 1, m, h => by
    rw [pre] at h
    split at h
    · rename_i m' x e1 e2
      simp at h
      subst h
      rw [List.length_append, pre_length l k m' e1]; rfl
    · cases h
theorem pre_none (l : List Nat) (k : Nat) (h : pre l k = none) : ∀ n, k ≤ n → pre l n = none := by
  intro n hn
  induction n with
  | zero => obtain rfl : k = 0 := by omega
            exact h
  | succ n ih =>
    rcases Nat.lt_or_ge n k with h1 | h1
    · obtain rfl : k = n + 1 := by omega
      exact h
    · rw [pre, ih h1]
theorem unhx_lt {c a : Nat} (h : unhx c = some a) : a < 16 := by
  unfold unhx at h
  split at h
  · simp at h; omega
  · split at h
    · simp at h; omega
    · cases h
def pres (l : List Nat) : List Nat × Int :=
  if l.length = 64 then match pre l 32 with
    | some m => (m, 0)
    | none => (List.replicate 32 0, 2)
  else (List.replicate 32 0, 2)

theorem res_cell_tmp {P : Program} {fn : Func} {p u : Tmp} {ty : TypeId} (h : fn.results = #[.cell p ty, .tmp u]) (tmps : Array Value) (w : World) (g : Nat) (t : TypeId) (cs : Array Value) (fr : Nat × Nat) (d : TypeDesc)
    (hp : tmps.getD p undef = .pointer (some ⟨g, 0, none⟩)) (hg : w.heap[g]? = some (.cells cs t fr))
    (hu : P.underlying ty = some d) (hd : (match d with | .struct _ | .array _ _ => true | _ => false) = true) (hi : (P.info? ty).map (·.size) = some cs.size) :
    (results fn tmps).run P w = .ok (.tuple #[.agg cs, tmps.getD u undef]) w := by
  have hp' : tmps[p]?.getD undef = .pointer (some ⟨g, 0, none⟩) := by simpa using hp
  rw [results_cell_tmp h]
  simp [hp', asAddr, run_loadVar_row w g t ty cs fr d hg hu hd hi, Result.andThen]

theorem built24 : Tryd.prog.built 24 [] = some z32 := by kernel_rfl
theorem z32_one : z32.all (·.oneCell') = true := nums_all _ _
theorem z32_size : z32.size = 32 := rfl

theorem or_u8 (a b : Nat) (ha : a < 16) (hb : b < 16) : bits .or .u8 ((a : Int) * 16) (b : Int) = ((a * 16 + b : Nat) : Int) := by
  have h : ∀ a : Fin 16, ∀ b : Fin 16, a.val * 16 ||| b.val = a.val * 16 + b.val := by decide
  have e : (a : Int) * 16 = ((a * 16 : Nat) : Int) := by omega
  rw [e, u8_or_nat _ _ (by omega) (by omega), h ⟨a, ha⟩ ⟨b, hb⟩]

set_option maxRecDepth 100000 in
set_option maxHeartbeats 1000000 in
theorem parse_len (t : ByteArray) (w : World) (h : t.size ≠ 64) (hm : t.size ≤ maxLen) :
    Calls Tryd.prog 17 #[.string t] w fun e w' => e = .returned (.tuple #[.agg z32, .int .i64 2]) ∧ Below w.heap.size w w' := by
  have hz := zero24
  have hd : ((t.size : Int) != 64) = true := by simp; omega
  have hd' : ((t.size : Int) == 64) = false := by simp; omega
  unfold maxLen at hm
  obtain ⟨W1, hW1⟩ : ∃ W1, W1 = (w.alloc (.cells z32 24)).alloc (.cells z32 24) := ⟨_, rfl⟩
  have hr : W1.heap[w.heap.size]? = some (.cells z32 24) := by rw [hW1]; exact alloc_old _ (alloc_new _ _)
  obtain ⟨W2, hW2⟩ : ∃ W2, W2 = W1.setRow w.heap.size z32 := ⟨_, rfl⟩
  have hrow : W2.heap[w.heap.size]? = some (.cells z32 24) := by rw [hW2]; exact setRow_heap _ _ _ _ _ _ hr
  have hbel : Below w.heap.size w W2 := by rw [hW2, hW1]; exact ((((Kept.refl w.heap.size w.heap.size w).alloc _).alloc _).setRow (Or.inl rfl) _).below (Nat.le_refl _) (Nat.le_refl _) (Nat.le_refl _)
  have HR := hide hr
  have HW2 := hide hW2
  have HROW := hide hrow
  have HBEL := hide hbel
  have hAl : (w.alloc (.cells z32 24)).alloc (.cells z32 24) = W1 := hW1.symm
  clear hr hW2 hrow hbel hW1
  go_enter Tryd.func17, Tryd.ntmps17
  go_wp2_with (first
    | (refine wpList_built rfl 24 _ rfl z32 ?_ ?_; (simp [Act.eval]; exact built24))
    | (refine wpList_store_rowW rfl 24 _ _ rfl w.heap.size z32 rfl rfl 24 z32 HR.out info24 rfl z32_one W2 HW2.out ?_))
  refine bodyPost_ret (res_cell_tmp rfl _ _ w.heap.size 24 z32 (0, 0) _ rfl HROW.out Tryd.underlying24 rfl info24) rfl ⟨rfl, HBEL.out⟩

set_option maxRecDepth 100000 in
set_option maxHeartbeats 2000000 in
theorem parse_64 (t : ByteArray) (w : World) (h : t.size = 64) :
    Calls Tryd.prog 17 #[.string t] w fun e w' => e = .returned (.tuple #[.agg (nums .u8 (pres (byt t)).1).toArray, .int .i64 (pres (byt t)).2]) ∧ Below w.heap.size w w' := by
  have hz := zero24
  have hbl : (byt t).length = 64 := by rw [byt_length, h]
  have hpr : pres (byt t) = match pre (byt t) 32 with | some m => (m, 0) | none => (List.replicate 32 0, 2) := by rw [pres, if_pos hbl]
  have hlt := byt_lt t
  have HPR := hide hpr
  have HLT := hide hlt
  have hix : ∀ i, i < 64 → ∀ w, (Instr.index 9 (.string t) (.int .i64 (i : Nat))).run Tryd.prog w = .ok (.int .u8 ((byt t).getD i 0 : Nat)) w := fun i hi w => run_ixstr t i (by omega) w
  have HIX := hide hix
  obtain ⟨l, hl⟩ : ∃ l, l = byt t := ⟨_, rfl⟩
  rw [← hl] at HPR HLT HIX
  have HL : Hid (byt t = l) := hl.symm
  have hd : ((t.size : Int) != 64) = false := by simp; omega
  have hd' : ((t.size : Int) == 64) = true := by simp; omega
  have HH := hide h
  clear hpr hlt hix hl hbl h
  go_enter Tryd.func17, Tryd.ntmps17
  go_wp2_with fail
  clear hz hd hd'
  go_loopw [14] (fun i wr => ∃ k : Nat, k ≤ 32 ∧ i = .int .i64 k ∧ Hid (∃ m, pre l k = some m ∧ Row wr (w.heap.size + 1) 24 (nums .u8 (m ++ List.replicate (32 - k) 0)) ∧ Row wr w.heap.size 24 z32.toList ∧ Below w.heap.size w wr)) (fun i _ => 32 - (intOf i).toNat)
  case atStart =>
    refine ⟨0, by omega, rfl, [], rfl, ?_, ?_, ?_⟩
    · have := Row.new (w.alloc (.cells z32 24)) z32 24
      rw [show (w.alloc (.cells z32 24)).heap.size = w.heap.size + 1 by simp] at this
      exact this
    · exact (Row.new w z32 24).alloc _
    · exact ((Below.refl _ _).alloc (Nat.le_refl _) _).alloc (by simp) _
  case round =>
    obtain ⟨k, hk, rfl, HI⟩ := hrel
    by_cases h1 : k < 32
    · obtain ⟨m, i0, i1, i2, i3⟩ := HI.out
      have hml := pre_length l k m i0
      obtain ⟨A, hA⟩ : ∃ A, A = 2 * k := ⟨_, rfl⟩
      obtain ⟨B, hB⟩ : ∃ B, B = 2 * k + 1 := ⟨_, rfl⟩
      have a1 : (2 : Int) * k = A := by omega
      have a2 : (A : Int) + 1 = B := by omega
      have x1 := HIX.out A (by omega)
      have x2 := HIX.out B (by omega)
      obtain ⟨y1, hy1⟩ : ∃ y, y = l.getD A 0 := ⟨_, rfl⟩
      obtain ⟨y2, hy2⟩ : ∃ y, y = l.getD B 0 := ⟨_, rfl⟩
      have l1 : y1 < 256 := by rw [hy1]; exact getD_lt HLT.out A
      have l2 : y2 < 256 := by rw [hy2]; exact getD_lt HLT.out B
      have hpk : pk l k = match unhx y1, unhx y2 with | some a, some b => some (a * 16 + b) | _, _ => none := by rw [pk, hy1, hy2, hA, hB]
      rw [← hy1] at x1
      rw [← hy2] at x2
      have v1 := fun w => hexValue_at y1 w l1
      have v2 := fun w => hexValue_at y2 w l2
      cases e1 : unhx y1 with
      | none =>
        rw [e1] at v1 hpk
        have hn : pre l 32 = none := pre_none l (k + 1) (by rw [pre, i0, hpk]) 32 (by omega)
        obtain ⟨g2, hg2⟩ : ∃ g, g = (unhx y2).getD 0 := ⟨_, rfl⟩
        obtain ⟨s2, hs2⟩ : ∃ s, s = (unhx y2).isSome := ⟨_, rfl⟩
        rw [← hg2, ← hs2] at v2
        have HP2 : Hid (pres (byt t) = (List.replicate 32 0, 2)) := by show _ = _; rw [HL.out, HPR.out, hn]
        obtain ⟨W2, hW2⟩ : ∃ W2, W2 = wr.setRow w.heap.size z32 := ⟨_, rfl⟩
        have hrow : W2.heap[w.heap.size]? = some (.cells z32 24) := by rw [hW2]; exact setRow_heap _ _ _ _ _ _ i2
        have hbel : Below w.heap.size w W2 := by rw [hW2]; exact i3.trans (((Kept.refl w.heap.size w.heap.size wr).setRow (Or.inl rfl) _).below (Nat.le_refl _) (Nat.le_refl _) i3.size)
        have HW2 := hide hW2
        have HROW := hide hrow
        have HBEL := hide hbel
        have I2 := hide i2
        have V1 := hide v1
        have V2 := hide v2
        clear v1 v2 i0 i1 i2 i3 HI hy1 hy2 hpk e1 hg2 hs2 hA hB hml hn hW2 hrow hbel
        go_wp2_with fail
        refine (V1.out _).mono ?_
        rintro e w1 ⟨rfl, rfl⟩
        go_wp2_with fail
        refine (V2.out _).mono ?_
        rintro e w1 ⟨rfl, rfl⟩
        go_wp2_with (first
          | (refine wpList_built rfl 24 _ rfl z32 ?_ ?_; (simp [Act.eval]; exact built24))
          | (refine wpList_store_rowW rfl 24 _ _ rfl w.heap.size z32 rfl rfl 24 z32 I2.out info24 rfl z32_one W2 HW2.out ?_))
        refine bodyPost_ret (res_cell_tmp rfl _ _ w.heap.size 24 z32 (0, 0) _ rfl HROW.out Tryd.underlying24 rfl info24) rfl ⟨?_, HBEL.out⟩
        rw [HP2.out]
        rfl
      | some a =>
        rw [e1] at v1 hpk
        cases e2 : unhx y2 with
        | none =>
          rw [e2] at v2 hpk
          have hn : pre l 32 = none := pre_none l (k + 1) (by rw [pre, i0, hpk]) 32 (by omega)
          have HP2 : Hid (pres (byt t) = (List.replicate 32 0, 2)) := by show _ = _; rw [HL.out, HPR.out, hn]
          obtain ⟨W2, hW2⟩ : ∃ W2, W2 = wr.setRow w.heap.size z32 := ⟨_, rfl⟩
          have hrow : W2.heap[w.heap.size]? = some (.cells z32 24) := by rw [hW2]; exact setRow_heap _ _ _ _ _ _ i2
          have hbel : Below w.heap.size w W2 := by rw [hW2]; exact i3.trans (((Kept.refl w.heap.size w.heap.size wr).setRow (Or.inl rfl) _).below (Nat.le_refl _) (Nat.le_refl _) i3.size)
          have HW2 := hide hW2
          have HROW := hide hrow
          have HBEL := hide hbel
          have I2 := hide i2
          have V1 := hide v1
          have V2 := hide v2
          clear v1 v2 i0 i1 i2 i3 HI hy1 hy2 hpk e1 e2 hA hB hml hn hW2 hrow hbel
          go_wp2_with fail
          refine (V1.out _).mono ?_
          rintro e w1 ⟨rfl, rfl⟩
          go_wp2_with fail
          refine (V2.out _).mono ?_
          rintro e w1 ⟨rfl, rfl⟩
          go_wp2_with (first
            | (refine wpList_built rfl 24 _ rfl z32 ?_ ?_; (simp [Act.eval]; exact built24))
            | (refine wpList_store_rowW rfl 24 _ _ rfl w.heap.size z32 rfl rfl 24 z32 I2.out info24 rfl z32_one W2 HW2.out ?_))
          refine bodyPost_ret (res_cell_tmp rfl _ _ w.heap.size 24 z32 (0, 0) _ rfl HROW.out Tryd.underlying24 rfl info24) rfl ⟨?_, HBEL.out⟩
          rw [HP2.out]
          rfl
        | some b =>
          rw [e2] at v2 hpk
          have la := unhx_lt e1
          have lb := unhx_lt e2
          have hpn : pre l (k + 1) = some (m ++ [a * 16 + b]) := by rw [pre, i0, hpk]
          have hor := or_u8 a b la lb
          obtain ⟨X, hX⟩ : ∃ X, X = a * 16 + b := ⟨_, rfl⟩
          rw [← hX] at hor hpn
          have ef : wr.frozen? ⟨w.heap.size + 1, k, none⟩ = false := i1.frozen k
          have ec : wr.cell? ⟨w.heap.size + 1, k, none⟩ = some (.int .u8 ((m ++ List.replicate (32 - k) 0).getD k 0 : Nat)) := i1.num0 (by rw [List.length_append, List.length_replicate, hml]; omega)
          obtain ⟨z, hz⟩ : ∃ z, z = (m ++ List.replicate (32 - k) 0).getD k 0 := ⟨_, rfl⟩
          rw [← hz] at ec
          have i4 := i1.setNum0 k X
          rw [List.set_append_right _ _ (by omega), hml, Nat.sub_self, show 32 - k = (32 - (k + 1)) + 1 by omega, List.replicate_succ, List.set_cons_zero] at i4
          have V1 := hide v1
          have V2 := hide v2
          have I4 := hide i4
          have HPN := hide hpn
          have I2 := hide i2
          have I3 := hide i3
          have hlaI : (a : Int) < 16 := by omega
          have hlbI : (b : Int) < 16 := by omega
          clear v1 v2 i4 hpn i0 i1 i2 i3 HI hX hz hy1 hy2 hpk e1 e2 hA hB hml
          go_wp2_with fail
          refine (V1.out _).mono ?_
          rintro e w1 ⟨rfl, rfl⟩
          go_wp2_with fail
          refine (V2.out _).mono ?_
          rintro e w1 ⟨rfl, rfl⟩
          go_wp2_with fail
          go_roundw
          case rel =>
            have KK : Kept (w.heap.size + 1) (w.heap.size + 1) wr (wr.setCell ⟨w.heap.size + 1, k, none⟩ (.int .u8 (X : Nat))) := (Kept.refl _ _ wr).set _ _
            refine ⟨k + 1, by omega, by go_num, m ++ [X], HPN.out, ?_, I2.out.kept KK (by omega) (by omega), I3.out.trans (KK.below (by omega) (by omega) I3.out.size)⟩
            rw [List.append_assoc]
            exact I4.out
          case measure => simp [intOf]; omega
    · obtain ⟨m, i0, i1, i2, i3⟩ := HI.out
      have hk2 : k = 32 := by omega
      rw [hk2] at i0 i1
      rw [show (32 : Nat) - 32 = 0 from rfl, List.replicate_zero, List.append_nil] at i1
      have hml := pre_length l 32 m i0
      have HP2 : Hid (pres (byt t) = (m, 0)) := by show _ = _; rw [HL.out, HPR.out, i0]
      obtain ⟨V, hV⟩ : ∃ V, V = (nums .u8 m).toArray := ⟨_, rfl⟩
      have hsV : V.size = 32 := by rw [hV]; simp [nums, hml]
      have hall : V.all (·.oneCell') = true := by rw [hV]; exact nums_all _ _
      have hg : wr.heap[w.heap.size + 1]? = some (.cells V 24) := by rw [hV]; exact i1
      obtain ⟨W2, hW2⟩ : ∃ W2, W2 = wr.setRow w.heap.size V := ⟨_, rfl⟩
      have hrow : W2.heap[w.heap.size]? = some (.cells V 24) := by rw [hW2]; exact setRow_heap _ _ _ _ _ _ i2
      have hbel : Below w.heap.size w W2 := by rw [hW2]; exact i3.trans (((Kept.refl w.heap.size w.heap.size wr).setRow (Or.inl rfl) _).below (Nat.le_refl _) (Nat.le_refl _) i3.size)
      have HV := hide hV
      have HSV := hide hsV
      have HALL := hide hall
      have HG := hide hg
      have HW2 := hide hW2
      have HROW := hide hrow
      have HBEL := hide hbel
      have I2 := hide i2
      clear hV hsV hall hg hW2 hrow hbel i0 i1 i2 i3 HI hml hk2
      go_wp2_with (first
        | (refine wpList_load_row rfl 24 _ rfl (w.heap.size + 1) rfl 24 V _ _ HG.out Tryd.underlying24 rfl ?_ ?_; (rw [HSV.out]; exact info24))
        | (refine wpList_store_rowW rfl 24 _ _ rfl w.heap.size V rfl rfl 24 z32 I2.out ?_ ?_ HALL.out W2 HW2.out ?_; (rw [HSV.out]; exact info24); (rw [HSV.out]; rfl)))
      refine bodyPost_ret (res_cell_tmp rfl _ _ w.heap.size 24 V (0, 0) _ rfl HROW.out Tryd.underlying24 rfl (by rw [HSV.out]; exact info24)) rfl ⟨?_, HBEL.out⟩
      rw [HP2.out, HV.out]
      rfl

theorem parse_at (t : ByteArray) (w : World) (hm : t.size ≤ maxLen) :
    Calls Tryd.prog 17 #[.string t] w fun e w' => e = .returned (.tuple #[.agg (nums .u8 (pres (byt t)).1).toArray, .int .i64 (pres (byt t)).2]) ∧ Below w.heap.size w w' := by
  by_cases h : t.size = 64
  · exact parse_64 t w h
  · have e : pres (byt t) = (List.replicate 32 0, 2) := by rw [pres, if_neg (by rw [byt_length]; exact h)]
    rw [e]
    exact parse_len t w h hm
end Go.Proofs.YtaibdmmacncejaaDoor
