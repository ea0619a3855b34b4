/-
  What package head writes: put; conditions as each theorem has them.
-/
import Derived.Test.YthbnbnfhbkekpaaGreatDoorBU
import Derived.Test.YthbnbnfhbkekpaaGreatDoorHM
set_option linter.unusedSimpArgs false
set_option linter.unusedVariables false
namespace Go.Proofs.YthbnbnfhbkekpaaGreatDoor
open Go.RowKit

/-- What a writer answers: the bytes, or that it may not be. -/
def Wrote (p : List Nat × Nat) (w : World) (e : Ending) (w' : World) : Prop := ∃ a c, e = .returned (.tuple #[.slice a p.1.length c, .int .i64 (p.2 : Nat)]) ∧ Src w' a p.1.length c p.1 ∧ Below w.heap.size w w'
theorem strCells_byt (s : ByteArray) : Lib.strCells s = nums .u8 (byt s) := by
  unfold Lib.strCells nums byt
  rw [List.map_map]; rfl
theorem byteCells_nums (l : List Nat) (h : ∀ x ∈ l, x < 256) : Lib.byteCells (l.map UInt8.ofNat) = nums .u8 l := by
  have := strCells_byt (strN l)
  rw [byt_strN l h] at this
  rw [← this]; rfl
theorem conv_src (t : ByteArray) (w : World) (h : t.size ≤ maxLen) : ∃ cap, ∃ w', (convert 9 22 (.string t)).run Tryz.prog w = .ok (.slice (some ⟨w.heap.size, 0, none⟩) t.size cap) w' ∧ Src w' (some ⟨w.heap.size, 0, none⟩) t.size cap (byt t) ∧ Below w.heap.size w w' := by
  have hr := Lib.run_convert_string_bytes (P := Tryz.prog) w 9 22 5 t Tryz.underlying9 Tryz.underlying22 Tryz.underlying5
  obtain ⟨cap, w', h1, h2, h3, h4⟩ := conv_bytes t w
  have e := hr.symm.trans h1
  simp only [Result.ok.injEq, Value.slice.injEq] at e
  obtain ⟨⟨_, _, e1⟩, e2⟩ := e
  refine ⟨cap, w', h1, ?_, h3⟩
  have hm : cap ≤ maxLen := by rw [← e1]; exact grownCap_le_maxLen _ _ _ _ h
  have := h4.src (cap := cap) (by rw [byt_length]; exact h2) hm (byt_lt t)
  rwa [byt_length] at this
theorem all_snoc (fs : List Fd) (k : Nat) (hk : k < fs.length) (h : (fs.take k).all okF = true) (h2 : okF (fs.getD k ([], [])) = true) : (fs.take (k + 1)).all okF = true := by
  rw [ftake_snoc fs k hk, List.all_append, h]; simpa using h2
theorem all_nokF (fs : List Fd) (k : Nat) (hk : k < fs.length) (h : okF (fs.getD k ([], [])) = false) : fs.all okF = false := by
  rw [List.all_eq_false]
  exact ⟨fs.getD k ([], []), getD_mem hk, by simpa using h⟩
theorem fla_snoc (L : List Nat) (fs : List Fd) (k : Nat) (hk : k < fs.length) : fla (L :: (fs.take (k + 1)).map fline) = fla (L :: (fs.take k).map fline) ++ ((fs.getD k ([], [])).1 ++ ([58, 32] ++ ((fs.getD k ([], [])).2 ++ [13, 10]))) := by
  rw [ftake_snoc fs k hk, List.map_append, ← List.cons_append, fla_app]
  simp [fla, fline]
theorem bld_below {T e : TypeId} {B b : Nat} {bs : List Value} {w w' : World} (h : Lib.IsBuilder T e B b bs w) (k : Below w.heap.size w w') : Lib.IsBuilder T e B b bs w' := by
  have key : ∀ p, Lib.BuilderAt T e B b p bs w → Lib.BuilderAt T e B b p bs w' := by
    rintro p ⟨hB, v, hb, hown, hne⟩
    refine ⟨hB, v, (k.block b (lt_of_some hb)).trans hb, ⟨hown.1, ?_⟩, hne⟩
    rcases hown.2 with h0 | ⟨x, cap, cur, hv, hx, hh, hrest⟩
    · exact Or.inl h0
    · exact Or.inr ⟨x, cap, cur, hv, hx, (k.block x (lt_of_some hh)).trans hh, hrest⟩
  rcases h with h | h
  · exact Or.inl (key _ h)
  · exact Or.inr (key _ h)
theorem fl_lt (ls : List (List Nat)) (h : ∀ l ∈ ls, ∀ y ∈ l, y < 256) : ∀ y ∈ fl ls, y < 256 := by
  induction ls with
  | nil => intro y hy; simp [fl_nil] at hy; omega
  | cons x r ih =>
    intro y hy
    rw [fl_cons] at hy
    simp only [List.mem_append, List.mem_cons] at hy
    rcases hy with hy | rfl | rfl | hy
    · exact h x (by simp) y hy
    · omega
    · omega
    · exact ih (fun l hl => h l (by simp [hl])) y hy
set_option maxRecDepth 100000 in
set_option maxHeartbeats 4000000 in
theorem put_at (x : ByteArray) (a : Option Addr) (n c : Nat) (fs : List Fd) (w : World) (h : SrcF w a n c fs) (hfm : ∀ f ∈ fs, f.1.length ≤ maxLen ∧ f.2.length ≤ maxLen) (hx : x.size ≤ 100000) : Calls Tryz.prog 55 #[.string x, .slice a n c] w (Wrote (put (byt x) fs) w) := by
  have hcl := h.hcap
  have hmx := h.hmax
  unfold maxLen at hmx
  have H := hide h
  have HFM := hide hfm
  have HNL := hide h.hlen
  clear h hfm
  go_enter Tryz.func55, Tryz.ntmps55
  go_wp2_with fail
  go_loopw [13] (fun i wr => ∃ k : Nat, k ≤ n ∧ i = .int .i64 k ∧ Hid ((fs.take k).all okF = true ∧ Below w.heap.size w wr)) (fun i _ => n - (intOf i).toNat)
  case atStart => exact ⟨0, by omega, rfl, rfl, Below.refl _ _⟩
  case round =>
    obtain ⟨k, hk, rfl, HI⟩ := hrel
    by_cases hkn : k < n
    · have hdk : decide ((k : Int) < (n : Int)) = true := decide_eq_true (by omega)
      have s1 := H.out.keep (w' := wr) (fun h0 b o e => HI.out.2.block b (H.out.lt h0 e)) HI.out.2.size
      obtain ⟨b, o, rfl, c0, c1⟩ := s1.at_ hkn
      rw [Nat.mul_comm 2 k] at c0 c1
      have hkl : k < fs.length := by rw [HNL.out]; exact hkn
      have hmem : fs.getD k ([], []) ∈ fs := getD_mem hkl
      have hby := H.out.byte _ hmem
      have hfl := HFM.out _ hmem
      have HSN : Hid (okF (fs.getD k ([], [])) = true → (fs.take (k + 1)).all okF = true) := fun h => all_snoc fs k hkl HI.out.1 h
      have HNO : Hid (okF (fs.getD k ([], [])) = false → put (byt x) fs = ([], 2)) := fun h => by unfold put; rw [if_pos (all_nokF fs k hkl h)]
      obtain ⟨f, hf⟩ : ∃ f, f = fs.getD k ([], []) := ⟨_, rfl⟩
      rw [← hf] at c0 c1 hby hfl HSN HNO
      obtain ⟨p, q⟩ := f
      simp only at c0 c1 hby hfl
      have HTK : Hid (∀ W, Calls Tryz.prog 29 #[.string (strN p)] W fun e w' => e = .returned (.bool (tok p)) ∧ Below W.heap.size W w') := fun W => by
        have := token_at (strN p) W (by rw [strN_size]; exact hfl.1)
        rw [byt_strN p hby.1] at this; exact this
      have HVL : Hid (∀ W, Calls Tryz.prog 31 #[.string (strN q)] W fun e w' => e = .returned (.bool (value q)) ∧ Below W.heap.size W w') := fun W => by
        have := value_at (strN q) W (by rw [strN_size]; exact hfl.2)
        rw [byt_strN q hby.2] at this; exact this
      have HOK : Hid (okF (p, q) = (tok p && value q)) := rfl
      obtain ⟨P, hP⟩ : ∃ x, x = strN p := ⟨_, rfl⟩
      obtain ⟨R, hR⟩ : ∃ x, x = strN q := ⟨_, rfl⟩
      obtain ⟨tp, htp⟩ : ∃ x, x = tok p := ⟨_, rfl⟩
      obtain ⟨vq, hvq⟩ : ∃ x, x = value q := ⟨_, rfl⟩
      rw [← hP] at c0 HTK
      rw [← hR] at c1 HVL
      rw [← htp] at HTK HOK
      rw [← hvq] at HVL HOK
      obtain ⟨G, hG⟩ : ∃ G, G = wr.heap.size := ⟨_, rfl⟩
      obtain ⟨W1, hW1⟩ : ∃ W, W = wr.alloc (.cells #[.string P, .string R] 76) := ⟨_, rfl⟩
      have b1 : Below wr.heap.size wr W1 := by rw [hW1]; exact (Below.refl _ _).alloc (Nat.le_refl _) _
      have g1 : W1.heap[G]? = some (.cells #[.string P, .string R] 76) := by rw [hW1, hG]; exact alloc_new _ _
      have B1 := hide (HI.out.2.trans (b1.mono HI.out.2.size))
      have G1 := hide g1
      have HW1 : Hid (wr.alloc (.cells #[.string P, .string R] 76) = W1) := hW1.symm
      have HG := hide hG.symm
      have e0 : W1.cell? ⟨G, 0, none⟩ = some (.string P) := by simp [World.cell?, g1]
      clear hkl hmem hby hfl hf hP hR htp hvq s1 hG hW1 b1 g1
      go_wp2_with (first | (rw [HW1.out, HG.out]))
      try (rw [HW1.out, HG.out]; go_wp2_with fail)
      refine (HTK.out _).mono ?_
      rintro e w2 ⟨rfl, hb2⟩
      have B2 := hide (B1.out.trans (hb2.mono B1.out.size))
      have e1 : w2.cell? ⟨G, 1, none⟩ = some (.string R) := by simp [World.cell?, keepB hb2 G1.out]
      clear hb2 HTK e0 c0 c1 B1 G1
      cases tp with
      | false =>
        have HR := hide (HNO.out (by rw [HOK.out]; rfl))
        clear HNO HSN HOK
        go_wp2_with fail
        go_ret2
        rw [HR.out]
        exact ⟨none, 0, rfl, Src.nilS _, B2.out⟩
      | true =>
        go_wp2_with fail
        refine (HVL.out _).mono ?_
        rintro e w3 ⟨rfl, hb3⟩
        have B3 := hide (B2.out.trans (hb3.mono B2.out.size))
        clear hb3 B2
        cases vq with
        | false =>
          have HR := hide (HNO.out (by rw [HOK.out]; rfl))
          clear HNO HSN HOK
          go_wp2_with fail
          go_ret2
          rw [HR.out]
          exact ⟨none, 0, rfl, Src.nilS _, B3.out⟩
        | true =>
          have HR := hide (HSN.out (by rw [HOK.out]; rfl))
          clear HNO HSN HOK
          go_wp2_with fail
          go_roundw
          case rel => exact ⟨k + 1, by omega, by go_num, HR.out, B3.out⟩
          case measure => simp [intOf]; omega
    · have hdk : decide ((k : Int) < (n : Int)) = false := decide_eq_false (by omega)
      have hall := HI.out.1
      rw [List.take_of_length_le (by rw [HNL.out]; omega)] at hall
      have HAL := hide hall
      clear hall
      by_cases h64 : 64 < n
      · have q64 : decide ((64 : Int) < (n : Int)) = true := decide_eq_true (by omega)
        have HP : Hid (put (byt x) fs = ([], 3)) := by show _ = _; unfold put; rw [if_neg (by rw [HAL.out]; simp), if_pos (Or.inl (by rw [HNL.out]; exact h64))]
        go_wp2_with fail
        go_ret2
        rw [HP.out]
        exact ⟨none, 0, rfl, Src.nilS _, HI.out.2⟩
      · have q64 : decide ((64 : Int) < (n : Int)) = false := decide_eq_false (by omega)
        have q64' : decide (64 < n) = false := decide_eq_false (by omega)
        have n1 : ¬ (9223372036854775807 < x.size + 2) := by omega
        obtain ⟨bb, hbb⟩ : ∃ b, b = wr.heap.size := ⟨_, rfl⟩
        obtain ⟨W1, hW1⟩ : ∃ W, W = wr.alloc (.cells #[.pointer none, .slice none 0 0] 143) := ⟨_, rfl⟩
        have b1 : Below w.heap.size w W1 := by rw [hW1]; exact HI.out.2.alloc (by have := HI.out.2.size; omega) _
        have hbld : Lib.IsBuilder 143 5 w.heap.size bb [] W1 := Or.inl ⟨by rw [hbb]; exact HI.out.2.size, .slice none 0 0, by rw [hW1, hbb]; exact alloc_new _ _, ⟨rfl, Or.inl ⟨rfl, rfl⟩⟩, by simp [Value.ownBlock]⟩
        have HW1 : Hid (wr.alloc (.cells #[.pointer none, .slice none 0 0] 143) = W1) := hW1.symm
        have HBB := hide hbb.symm
        obtain ⟨X, hX⟩ : ∃ X, X = x ++ ⟨#[13, 10]⟩ := ⟨_, rfl⟩
        have hXs : X.size = x.size + 2 := by rw [hX]; exact ByteArray.size_append
        have HS1 := hide (writeString_at w.heap.size bb [] X W1 hbld (by simp; omega) b1.size)
        have HX : Hid (x ++ ⟨#[13, 10]⟩ = X) := hX.symm
        have B1 := hide b1
        clear hbb hW1 b1 hbld hX
        go_wp2_with (first | (rw [HW1.out, HBB.out]))
        try (rw [HW1.out, HBB.out]; go_wp2_with fail)
        rw [HX.out]
        refine HS1.out.mono ?_
        rintro e w2 ⟨rfl, hb2, k2⟩
        have B2 := hide (B1.out.trans k2)
        have HB2 : Hid (Lib.IsBuilder 143 5 w.heap.size bb (nums .u8 (fla (byt x :: (fs.take 0).map fline))) w2) := by
          have e1 : nums .u8 (fla (byt x :: (fs.take 0).map fline)) = [] ++ Lib.strCells X := by
            rw [strCells_byt, ← HX.out, List.nil_append]
            congr 1
            simp [fla, byt]
          show Lib.IsBuilder _ _ _ _ _ _
          rw [e1]; exact hb2
        clear hb2 k2 HS1 B1
        go_wp2_with fail
        have hn64 : n ≤ 64 := by omega
        have HSM : Hid (∀ f ∈ fs, f.1.length ≤ 64 ∧ f.2.length ≤ 4096) := fun f hf => by
          have h1 := List.all_eq_true.1 HAL.out f hf
          unfold okF at h1
          rw [Bool.and_eq_true] at h1
          exact ⟨(tok_parts h1.1).2.1, (value_parts h1.2).1⟩
        have HXL : Hid ((byt x).length ≤ 100000) := by show _ ≤ _; rw [byt_length]; exact hx
        clear HFM hkn hdk q64 q64' h64 n1 hXs HX HW1 HBB HI
        go_loopw [36] (fun i wr => ∃ j : Nat, j ≤ n ∧ i = .int .i64 j ∧ Hid (Lib.IsBuilder 143 5 w.heap.size bb (nums .u8 (fla (byt x :: (fs.take j).map fline))) wr ∧ (fla (byt x :: (fs.take j).map fline)).length ≤ 100002 + j * 5000 ∧ Below w.heap.size w wr)) (fun i _ => n - (intOf i).toNat)
        case atStart => exact ⟨0, by omega, rfl, HB2.out, by simp [fla]; exact HXL.out, B2.out⟩
        case round =>
          obtain ⟨j, hj, rfl, HI⟩ := hrel
          by_cases hjn : j < n
          · have hdk : decide ((j : Int) < (n : Int)) = true := decide_eq_true (by omega)
            have s1 := H.out.keep (w' := wr) (fun h0 b o e => HI.out.2.2.block b (H.out.lt h0 e)) HI.out.2.2.size
            obtain ⟨b, o, rfl, c0, c1⟩ := s1.at_ hjn
            rw [Nat.mul_comm 2 j] at c0 c1
            have hjl : j < fs.length := by rw [HNL.out]; exact hjn
            have hmem : fs.getD j ([], []) ∈ fs := getD_mem hjl
            have hby := H.out.byte _ hmem
            have hfl := HSM.out _ hmem
            have HSN := hide (fla_snoc (byt x) fs j hjl)
            obtain ⟨f, hf⟩ : ∃ f, f = fs.getD j ([], []) := ⟨_, rfl⟩
            rw [← hf] at c0 c1 hby hfl HSN
            obtain ⟨p, q⟩ := f
            simp only at c0 c1 hby hfl HSN
            have hpb := byt_strN p hby.1
            have hqb := byt_strN q hby.2
            have hps := strN_size p
            have hqs := strN_size q
            obtain ⟨P, hP⟩ : ∃ x, x = strN p := ⟨_, rfl⟩
            obtain ⟨R, hR⟩ : ∃ x, x = strN q := ⟨_, rfl⟩
            rw [← hP] at c0 hpb hps
            rw [← hR] at c1 hqb hqs
            obtain ⟨Y, hY⟩ : ∃ Y, Y = P ++ ⟨#[58, 32]⟩ ++ R ++ ⟨#[13, 10]⟩ := ⟨_, rfl⟩
            have hYb : byt Y = p ++ ([58, 32] ++ (q ++ [13, 10])) := by
              have e1 : ∀ (A B : ByteArray), byt (A ++ B) = byt A ++ byt B := fun A B => by simp [byt]
              rw [hY, e1, e1, e1, hpb, hqb]
              simp [byt]
            have hYs : Y.size ≤ 4164 := by
              rw [← byt_length, hYb]; simp; omega
            have n1 : ¬ (9223372036854775807 < P.size + 2) := by omega
            have n2 : ¬ (9223372036854775807 < P.size + 2 + R.size) := by omega
            have n3 : ¬ (9223372036854775807 < P.size + 2 + R.size + 2) := by omega
            have HY : Hid (P ++ ⟨#[58, 32]⟩ ++ R ++ ⟨#[13, 10]⟩ = Y) := hY.symm
            obtain ⟨G, hG⟩ : ∃ G, G = wr.heap.size := ⟨_, rfl⟩
            obtain ⟨W1, hW1⟩ : ∃ W, W = wr.alloc (.cells #[.string P, .string R] 76) := ⟨_, rfl⟩
            have b1 : Below wr.heap.size wr W1 := by rw [hW1]; exact (Below.refl _ _).alloc (Nat.le_refl _) _
            have g1 : W1.heap[G]? = some (.cells #[.string P, .string R] 76) := by rw [hW1, hG]; exact alloc_new _ _
            have B1 := hide (HI.out.2.2.trans (b1.mono HI.out.2.2.size))
            have HW1 : Hid (wr.alloc (.cells #[.string P, .string R] 76) = W1) := hW1.symm
            have HG := hide hG.symm
            have e0 : W1.cell? ⟨G, 0, none⟩ = some (.string P) := by simp [World.cell?, g1]
            have e1 : W1.cell? ⟨G, 1, none⟩ = some (.string R) := by simp [World.cell?, g1]
            have hbld := bld_below HI.out.1 b1
            have HS1 := hide (writeString_at w.heap.size bb _ Y W1 hbld (by rw [nums_length]; have := HI.out.2.1; omega) B1.out.size)
            rw [strCells_byt, hYb, ← nums_append, ← HSN.out] at HS1
            have HLN : Hid ((fla (byt x :: (fs.take (j + 1)).map fline)).length ≤ 100002 + (j + 1) * 5000) := by
              show _ ≤ _
              have h2 := HI.out.2.1
              rw [HSN.out, List.length_append, ← hYb, byt_length]
              omega
            clear hjl hmem hby hfl hf hP hR hpb hqb hps hqs hYb hYs hY s1 hG hW1 b1 g1 hbld
            go_wp2_with (first | (rw [HW1.out, HG.out]))
            try (rw [HW1.out, HG.out]; go_wp2_with fail)
            rw [HY.out]
            refine HS1.out.mono ?_
            rintro e w3 ⟨rfl, hb3, k3⟩
            have B3 := hide (B1.out.trans k3)
            have HB3 := hide hb3
            clear hb3 k3 HS1 B1
            go_wp2_with fail
            go_roundw
            case rel => exact ⟨j + 1, by omega, by go_num, HB3.out, HLN.out, B3.out⟩
            case measure => simp [intOf]; omega
          · have hdk : decide ((j : Int) < (n : Int)) = false := decide_eq_false (by omega)
            obtain ⟨hI1, hI2, hI3⟩ := HI.out
            rw [List.take_of_length_le (by rw [HNL.out]; omega)] at hI1 hI2
            have HS1 := hide (writeString_at w.heap.size bb _ ⟨#[13, 10]⟩ wr hI1 (by rw [nums_length]; show _ + 2 ≤ _; omega) hI3.size)
            rw [strCells_byt, ← nums_append, show byt ⟨#[13, 10]⟩ = [13, 10] from rfl] at HS1
            have HFL : Hid (fla (byt x :: fs.map fline) ++ [13, 10] = fl (byt x :: fs.map fline)) := rfl
            rw [HFL.out] at HS1
            have B3 := hide hI3
            clear hI1 hI2 hI3 HI
            go_wp2_with fail
            refine HS1.out.mono ?_
            rintro e w3 ⟨rfl, hb3, k3⟩
            have B4 := hide (B3.out.trans k3)
            have HLE := hide (Tryz.Builder_Len w.heap.size bb _ w3 hb3)
            rw [nums_length] at HLE
            have HPT : Hid (put (byt x) fs = if 8192 < tot (byt x :: fs.map fline) then ([], 3) else (fl (byt x :: fs.map fline), 0)) := by
              show _ = _
              unfold put
              rw [if_neg (by rw [HAL.out]; simp)]
              have : ¬ 64 < fs.length := by rw [HNL.out]; omega
              by_cases h8 : 8192 < tot (byt x :: fs.map fline)
              · rw [if_pos (Or.inr h8), if_pos h8]
              · rw [if_neg (by omega), if_neg h8]
            have hbyt : ∀ y ∈ fl (byt x :: fs.map fline), y < 256 := by
              refine fl_lt _ ?_
              intro l hl y hy
              rcases List.mem_cons.1 hl with rfl | hl
              · exact byt_lt x y hy
              · obtain ⟨f, hf, rfl⟩ := List.mem_map.1 hl
                have hbf := H.out.byte f hf
                unfold fline at hy
                simp only [List.mem_append, List.mem_cons] at hy
                rcases hy with hy | rfl | rfl | hy
                · exact hbf.1 y hy
                · omega
                · omega
                · exact hbf.2 y hy
            have hb3' : Lib.IsBuilder 143 5 w.heap.size bb (Lib.byteCells ((fl (byt x :: fs.map fline)).map UInt8.ofNat)) w3 := by rw [byteCells_nums _ hbyt]; exact hb3
            have HST := hide (Tryz.Builder_String_any w.heap.size bb _ w3 hb3' B4.out.size)
            have hst : (⟨((fl (byt x :: fs.map fline)).map UInt8.ofNat).toArray⟩ : ByteArray) = strN (fl (byt x :: fs.map fline)) := rfl
            rw [hst] at HST
            have HBY := hide (byt_strN _ hbyt)
            obtain ⟨FL, hFL⟩ : ∃ F, F = fl (byt x :: fs.map fline) := ⟨_, rfl⟩
            have htot : tot (byt x :: fs.map fline) = FL.length := by rw [hFL]; rfl
            rw [htot, ← hFL] at HPT
            rw [← hFL] at HLE HST HBY
            clear hb3 k3 hb3' hst hbyt hFL htot HS1 HFL
            go_wp2_with fail
            refine HLE.out.mono ?_
            rintro e w4 ⟨rfl, rfl⟩
            by_cases h8 : 8192 < FL.length
            · have q8 : decide ((8192 : Int) < (FL.length : Int)) = true := decide_eq_true (by omega)
              have q8' : decide (8192 < FL.length) = true := decide_eq_true h8
              rw [if_pos h8] at HPT
              go_wp2_with fail
              go_ret2
              rw [HPT.out]
              exact ⟨none, 0, rfl, Src.nilS _, B4.out⟩
            · have q8 : decide ((8192 : Int) < (FL.length : Int)) = false := decide_eq_false (by omega)
              have q8' : decide (8192 < FL.length) = false := decide_eq_false h8
              rw [if_neg h8] at HPT
              go_wp2_with fail
              refine HST.out.mono ?_
              rintro e w5 ⟨rfl, k5⟩
              obtain ⟨cap, W6, hcv, hs6, hb6⟩ := conv_src (strN FL) w5 (by rw [strN_size]; unfold maxLen; omega)
              rw [HBY.out, strN_size] at hs6
              have b5 := B4.out.trans k5
              have B6 := hide (b5.trans (hb6.mono b5.size))
              have S6 := hide hs6
              rw [strN_size] at hcv
              clear hs6 hb6 b5 k5 HST HLE
              go_wp2_with fail
              go_ret2
              rw [HPT.out]
              exact ⟨_, _, rfl, S6.out, B6.out⟩
end Go.Proofs.YthbnbnfhbkekpaaGreatDoor
