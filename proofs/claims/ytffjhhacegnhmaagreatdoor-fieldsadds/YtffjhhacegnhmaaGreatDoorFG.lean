/-
  Directives and Age of package fields, IndexFunc and ContainsFunc of package slices at them; conditions as each theorem has them.
-/
import Derived.Test.YtffjhhacegnhmaaGreatDoorFB
import Derived.Test.YtffjhhacegnhmaaGreatDoorFD
import Derived.Shelf.Abstract
set_option linter.unusedSimpArgs false
set_option linter.unusedVariables false
namespace Go.Proofs.YtffjhhacegnhmaaGreatDoor
open Go.RowKit

/-- A slice of values of one cell each, wherever it lies. -/
structure SrcV (w : World) (a : Option Addr) (len cap : Nat) (xs : List Value) : Prop where
  hlen : xs.length = len
  hcap : len ≤ cap
  hmax : cap ≤ maxLen
  lies : 0 < len → ∃ b o, a = some ⟨b, o, none⟩ ∧ b < w.heap.size ∧ ∀ j u, xs[j]? = some u → w.cell? ⟨b, o + j, none⟩ = some u
theorem SrcV.below {w w' : World} {a : Option Addr} {len cap : Nat} {xs : List Value} (h : SrcV w a len cap xs) (k : Below w.heap.size w w') : SrcV w' a len cap xs := by
  refine ⟨h.hlen, h.hcap, h.hmax, fun h0 => ?_⟩
  obtain ⟨b, o, e, hb, hc⟩ := h.lies h0
  exact ⟨b, o, e, Nat.lt_of_lt_of_le hb k.size, fun j u hu => (k.cell (p := ⟨b, o + j, none⟩) hb).trans (hc j u hu)⟩
theorem own_srcV {w : World} {B : Nat} {e : TypeId} {v : Value} {xs : List Value} (h : Own w B e v xs) : ∃ a cap, v = .slice a xs.length cap ∧ SrcV w a xs.length cap xs := by
  rcases h.2 with ⟨rfl, h0⟩ | ⟨g, cap, cur, rfl, hx, hh, hc, hm, hs, ht⟩
  · have : xs = [] := List.length_eq_zero_iff.1 h0
    subst this
    exact ⟨none, 0, rfl, rfl, Nat.le_refl _, Nat.zero_le _, fun h => by simp at h⟩
  · refine ⟨_, cap, rfl, rfl, hc, hm, fun _ => ⟨g, 0, rfl, lt_of_some hh, fun j u hu => ?_⟩⟩
    have hj := (List.getElem?_eq_some_iff.1 hu).1
    rw [Nat.mul_one] at ht
    have : cur.toList[j]? = some u := by rw [← hu, ← ht, List.getElem?_take, if_pos (by omega)]
    rw [Nat.zero_add]
    simp only [World.cell?, hh]
    simpa using this
theorem enters_readDirective : ∀ (args : Array Value) (w : World), (callFunc 58 args).run Tryz.prog w = .ok (.enter 58 args) w := Go.Proofs.enters_of Tryz.func58 (by kernel_rfl) rfl
theorem enters_readAge : ∀ (args : Array Value) (w : World), (callFunc 43 args).run Tryz.prog w = .ok (.enter 43 args) w := Go.Proofs.enters_of Tryz.func43 (by kernel_rfl) rfl
theorem directives_at (a : Option Addr) (n c : Nat) (fs : List Fd) (w : World) (hV : Vars w) (h : SrcF w a n c fs) (hfew : Few fs) :
    Calls Tryz.prog 40 #[.slice a n c] w fun e w' => ∃ v, e = .returned v ∧ Own w' w.heap.size 9 v (strs (dirs fs)) ∧ Below w.heap.size w w' := by
  have HC := hide (cutS_at rdD 58 enters_readDirective (fun t W ht => readDirective_at t W (by omega)) a n c fs ⟨#[99, 97, 99, 104, 101, 45, 99, 111, 110, 116, 114, 111, 108]⟩ w hV h hfew)
  rw [show byt (⟨#[99, 97, 99, 104, 101, 45, 99, 111, 110, 116, 114, 111, 108]⟩ : ByteArray) = ccS from rfl] at HC
  go_enter Tryz.func40, Tryz.ntmps40
  go_wp2_with fail
  refine HC.out.mono ?_
  rintro e w1 ⟨v, rfl, ho, hb⟩
  have O := hide ho
  have B := hide hb
  clear ho hb HC
  go_wp2_with fail
  go_ret
  exact ⟨_, rfl, O.out, B.out⟩
theorem any_take (p : List Nat → Bool) (l : List (List Nat)) (k : Nat) (h : k < l.length) (h1 : (l.take k).any p = false) (h2 : p (l.getD k []) = false) : (l.take (k + 1)).any p = false := by
  rw [take_getD (d := []) h, List.any_append, h1]
  simp only [List.any_cons, List.any_nil, h2]; rfl
theorem any_hit (p : List Nat → Bool) (l : List (List Nat)) (k : Nat) (h : k < l.length) (h2 : p (l.getD k []) = true) : l.any p = true :=
  List.any_eq_true.2 ⟨_, getD_mem h, h2⟩
theorem indexFunc_at (a : Option Addr) (n c : Nat) (gs : List (List Nat)) (w : World) (h : SrcV w a n c (strs gs)) (hb : ∀ g ∈ gs, ∀ x ∈ g, x < 256) :
    Calls Tryz.prog 56 #[.slice a n c, .func (.func 41) #[] #[]] w fun e w' => ∃ i : Int, e = .returned (.int .i64 i) ∧ decide (0 ≤ i) = gs.any forb ∧ w = w' := by
  have hcl := h.hcap
  have hmx := h.hmax
  unfold maxLen at hmx
  have hl := h.hlen
  rw [strs_length] at hl
  have H := hide h
  have HL := hide hl
  have HB := hide hb
  clear h hl hb
  go_enter Tryz.func56, Tryz.ntmps56
  go_wp2_with fail
  go_loop [8] (fun i => ∃ k : Nat, k ≤ n ∧ i = .int .i64 k ∧ Hid ((gs.take k).any forb = false)) (fun i => n - (intOf i).toNat)
  case atStart => exact ⟨0, by omega, rfl, rfl⟩
  case round =>
    obtain ⟨k, hk, rfl, HI⟩ := hrel
    by_cases hkn : k < n
    · have hdk : decide ((k : Int) < (n : Int)) = true := decide_eq_true (by omega)
      obtain ⟨b, o, rfl, hbl, hc⟩ := H.out.lies (by omega)
      have hkl : k < gs.length := by rw [HL.out]; exact hkn
      have c0 := hc k _ (strs_get gs k hkl)
      have HF : Hid (∀ W, Calls Tryz.prog 41 #[.string (strN (gs.getD k []))] W fun e w' => e = .returned (.bool (forb (gs.getD k []))) ∧ W = w') := fun W => by
        have := forbids_at (strN (gs.getD k [])) W
        rw [byt_strN _ (HB.out _ (getD_mem hkl))] at this
        exact this
      have HA : Hid (forb (gs.getD k []) = false → (gs.take (k + 1)).any forb = false) := any_take forb gs k hkl HI.out
      have HT : Hid (forb (gs.getD k []) = true → gs.any forb = true) := any_hit forb gs k hkl
      obtain ⟨X, hX⟩ : ∃ X, X = strN (gs.getD k []) := ⟨_, rfl⟩
      obtain ⟨f, hf⟩ : ∃ f, f = forb (gs.getD k []) := ⟨_, rfl⟩
      rw [← hX] at c0
      rw [← hX, ← hf] at HF
      rw [← hf] at HA HT
      clear hX hf hkl hc hbl
      cases f with
      | true =>
        have ht := hide (HT.out rfl)
        go_wp2_with fail
        refine (HF.out _).mono ?_
        rintro e w1 ⟨rfl, rfl⟩
        go_wp2_with fail
        go_ret
        exact ⟨_, rfl, by rw [ht.out]; exact decide_eq_true (by omega), rfl⟩
      | false =>
        have ht := hide (HA.out rfl)
        go_wp2_with fail
        refine (HF.out _).mono ?_
        rintro e w1 ⟨rfl, rfl⟩
        go_wp2_with fail
        go_round
        case rel => exact ⟨k + 1, by omega, by go_num, ht.out⟩
        case measure => simp [intOf]; omega
    · have hdk : decide ((k : Int) < (n : Int)) = false := decide_eq_false (by omega)
      have HF : Hid (gs.any forb = false) := by
        have := HI.out
        rw [List.take_of_length_le (by rw [HL.out]; omega)] at this
        exact this
      go_wp2_with fail
      go_ret
      exact ⟨-1, rfl, by rw [HF.out]; rfl, rfl⟩
theorem containsFunc_at (a : Option Addr) (n c : Nat) (gs : List (List Nat)) (w : World) (h : SrcV w a n c (strs gs)) (hb : ∀ g ∈ gs, ∀ x ∈ g, x < 256) :
    Calls Tryz.prog 39 #[.slice a n c, .func (.func 41) #[] #[]] w fun e w' => e = .returned (.bool (gs.any forb)) ∧ w = w' := by
  have HI := hide (indexFunc_at a n c gs w h hb)
  go_enter Tryz.func39, Tryz.ntmps39
  go_wp2_with fail
  refine HI.out.mono ?_
  rintro e w1 ⟨i, rfl, hi, rfl⟩
  have HD := hide hi
  clear hi HI
  go_wp2_with fail
  go_ret
  exact ⟨by rw [← HD.out]; rfl, rfl⟩
theorem rdD_lt {p q : List Nat} (hp : ∀ x ∈ p, x < 256) (h : rdD p = some q) : ∀ x ∈ q, x < 256 := by
  unfold rdD at h
  split at h
  · cases h
  · cases h; exact low_lt hp
theorem gat_ltD : ∀ (fs : List Fd), okB fs → ∀ k ∈ dirs fs, ∀ x ∈ k, x < 256
  | [], _, k, hk => by simp [dirs, gat] at hk
  | f :: r, h, k, hk => by
    rw [dirs, gat, List.mem_append] at hk
    rcases hk with hk | hk
    · split at hk
      · obtain ⟨p, hp, hq⟩ := List.mem_filterMap.1 hk
        exact rdD_lt (fun x hx => (h f List.mem_cons_self).2 x (cms_sub f.2 p hp x (trim_mem hx))) hq
      · simp at hk
    · exact gat_ltD r (fun g hg => h g (List.mem_cons_of_mem _ hg)) k hk
theorem ages_lt (fs : List Fd) : ∀ m ∈ gat ccS rdA fs, m < 10000000 := fun m hm => by
  rw [ages_dirs] at hm
  obtain ⟨d, _, hd⟩ := List.mem_filterMap.1 hm
  exact mx_lt hd
def ageV (p : Nat × Bool) : Value := .tuple #[.int .i64 (p.1 : Nat), .bool p.2]
set_option maxRecDepth 100000 in
theorem age_at (a : Option Addr) (n c : Nat) (fs : List Fd) (w : World) (hV : Vars w) (h : SrcF w a n c fs) (hfew : Few fs) :
    Calls Tryz.prog 22 #[.slice a n c] w fun e w' => e = .returned (ageV (agev fs)) ∧ Below w.heap.size w w' := by
  have HD := hide (directives_at a n c fs w hV h hfew)
  have HGL := hide (gat_ltD fs h.byte)
  have HAL := hide (ages_lt fs)
  have HA : Hid (∀ W, Below w.heap.size w W → Calls Tryz.prog 42 #[.slice a n c, .string ⟨#[99, 97, 99, 104, 101, 45, 99, 111, 110, 116, 114, 111, 108]⟩, .func (.func 43) #[] #[]] W fun e w' => ∃ v, e = .returned v ∧ Own w' W.heap.size 3 v (its (gat ccS rdA fs)) ∧ Below W.heap.size W w') := fun W hW =>
    cutI_at rdA 43 enters_readAge (fun t W ht => readAge_at t W (by omega)) a n c fs ⟨#[99, 97, 99, 104, 101, 45, 99, 111, 110, 116, 114, 111, 108]⟩ W (hV.below hW) (h.below hW) hfew
  have HV : Hid (agev fs = if (dirs fs).any forb = true then (0, false) else match gat ccS rdA fs with | [n] => if n = 0 then (0, false) else (min n 1048576, true) | _ => (0, false)) := rfl
  clear h hV hfew
  obtain ⟨ags, hags⟩ : ∃ x, x = gat ccS rdA fs := ⟨_, rfl⟩
  rw [← hags] at HA HV HAL
  clear hags
  go_enter Tryz.func22, Tryz.ntmps22
  go_wp2_with fail
  refine HD.out.mono ?_
  rintro e w1 ⟨v, rfl, ho, hb1⟩
  obtain ⟨a1, c1, rfl, s1⟩ := own_srcV ho
  have HC := hide (containsFunc_at a1 _ c1 (dirs fs) w1 s1 HGL.out)
  have B1 := hide hb1
  clear ho hb1 HD s1
  obtain ⟨f, hf⟩ : ∃ f, f = (dirs fs).any forb := ⟨_, rfl⟩
  rw [← hf] at HC HV
  clear hf
  obtain ⟨N, hN⟩ : ∃ N, N = (strs (dirs fs)).length := ⟨_, rfl⟩
  rw [← hN] at HC ⊢
  clear hN
  cases f with
  | true =>
    go_wp2_with fail
    refine HC.out.mono ?_
    rintro e w2 ⟨rfl, rfl⟩
    go_wp2_with fail
    go_ret2
    exact ⟨by rw [HV.out]; rfl, B1.out⟩
  | false =>
    go_wp2_with fail
    refine HC.out.mono ?_
    rintro e w2 ⟨rfl, rfl⟩
    go_wp2_with fail
    refine (HA.out _ B1.out).mono ?_
    rintro e w3 ⟨v3, rfl, ho3, hb3⟩
    have B3 := hide (B1.out.trans (hb3.mono B1.out.size))
    obtain ⟨a3, c3, rfl, s3⟩ := own_srcV ho3
    have S3 := hide s3
    clear ho3 hb3 HA s3 HC
    rw [its_length] at S3 ⊢
    match ags, HV, HAL, S3 with
    | [], HV, HAL, S3 =>
      go_wp2_with fail
      go_ret2
      exact ⟨by rw [HV.out]; rfl, B3.out⟩
    | x :: y :: r, HV, HAL, S3 =>
      obtain ⟨L, hL⟩ : ∃ L, L = (x :: y :: r).length := ⟨_, rfl⟩
      have hL2 : 2 ≤ L := by rw [hL]; simp
      rw [← hL] at S3 ⊢
      clear hL
      have q1 : ((L : Int) != 1) = true := by simp; omega
      have q2 : ((L : Int) == 1) = false := by simp; omega
      go_wp2_with fail
      go_ret2
      exact ⟨by rw [HV.out]; rfl, B3.out⟩
    | [x], HV, HAL, S3 =>
      obtain ⟨b, o, rfl, hbl, hc⟩ := S3.out.lies (by simp)
      have c0 : w3.cell? ⟨b, o, none⟩ = some (.int .i64 (x : Nat)) := hc 0 _ rfl
      have hx := HAL.out x (by simp)
      have hc3 := S3.out.hmax
      have hc4 := S3.out.hcap
      unfold maxLen at hc3
      simp at hc4
      clear hc hbl HAL S3
      by_cases h0 : x = 0
      · have HR : Hid (agev fs = (0, false)) := by show _ = _; rw [HV.out, h0]; rfl
        subst h0
        go_wp2_with fail
        go_ret2
        exact ⟨by rw [HR.out]; rfl, B3.out⟩
      · have HR : Hid (agev fs = (min x 1048576, true)) := by show _ = _; rw [HV.out]; simp [h0]
        have q0 : ((x : Int) == 0) = false := by simp; omega
        go_wp2_with fail
        go_ret2
        refine ⟨?_, B3.out⟩
        rw [HR.out]
        show Ending.returned (.tuple #[.int .i64 (min (x : Int) 1048576), .bool true]) = .returned (.tuple #[.int .i64 ((min x 1048576 : Nat) : Int), .bool true])
        rw [show (min (x : Int) 1048576) = ((min x 1048576 : Nat) : Int) by omega]
end Go.Proofs.YtffjhhacegnhmaaGreatDoor
