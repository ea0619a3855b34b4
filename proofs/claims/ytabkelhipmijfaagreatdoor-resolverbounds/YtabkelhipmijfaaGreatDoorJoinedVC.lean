/-
  first, count and least of package names, at the functions that are handed to them; Addresses wherever they lie, a call's own ones, how base holds them side by side, and what a slot tells and is filled with; conditions as each theorem has them.
-/
import Derived.Test.YtabkelhipmijfaaGreatDoorJoinedVA
import Derived.Test.YtabkelhipmijfaaGreatDoorJoined2
set_option linter.unusedSimpArgs false
set_option linter.unusedVariables false
namespace Go.Proofs.YtabkelhipmijfaaGreatDoor.Nm
open Go.RowKit
theorem Row.below {w w' : World} {g : Nat} {L : List Sl} (h : Row w g L) (k : Below w.heap.size w w') : Row w' g L := (k.block g (lt_of_some h)).trans h
theorem cell_below {w w' : World} {a : Addr} {v : Value} (h : w.cell? a = some v) (k : Below w.heap.size w w') : w'.cell? a = some v := (k.cell (lt_of_cell h)).trans h
set_option maxRecDepth 100000 in
set_option maxHeartbeats 2000000 in
theorem first_at (g b N : Nat) (L : List Sl) (name : ByteArray) (w : World) (hN : L.length = N) (hr : Row w g L) (ho : okL L) (hm : N ≤ 4096) (hb : w.cell? ⟨b, 0, none⟩ = some (.string name)) :
    Calls Tryz.prog 60 #[.slice (some ⟨g, 0, none⟩) N N, .func (.func 87) #[] #[.pointer (some ⟨b, 0, none⟩)]] w fun e w' => e = .returned (.pointer (if fidx name L < N then some ⟨g, fidx name L * 67, none⟩ else none)) ∧ Below w.heap.size w w' := by
  have HR := hide hr
  have HO := hide ho
  have HB := hide hb
  have HN := hide hN
  clear hr ho hb hN
  obtain ⟨A, hA⟩ : ∃ A, A = (if fidx name L < N then some (⟨g, fidx name L * 67, none⟩ : Addr) else none) := ⟨_, rfl⟩
  rw [← hA]
  have HA := hide hA
  clear hA
  go_enter Tryz.func60, Tryz.ntmps60
  go_wp2_with fail
  go_loopw [8] (fun v wr => ∃ j : Nat, j ≤ N ∧ v = .int .i64 j ∧ Hid (Below w.heap.size w wr) ∧ Hid (∀ (k : Nat) (x : Sl), k < j → L[k]? = some x → x.name ≠ name)) (fun v _ => N - (intOf v).toNat)
  case atStart => exact ⟨0, Nat.zero_le _, rfl, Below.refl _ _, fun k x hk => by omega⟩
  case round =>
    obtain ⟨j, hj, rfl, HK, HX⟩ := hrel
    by_cases hjn : j < N
    · have hd : decide ((j : Int) < (N : Int)) = true := decide_eq_true (by omega)
      have hs : Hid (L[j]? = some (at0 L j)) := get_at0 (by rw [HN.out]; exact hjn)
      obtain ⟨c0, c1, c2⟩ := (HR.out.below HK.out).cells HO.out hs.out
      have HC := hide (c41_at g (j * 67) b (at0 L j).name name wr c0 (cell_below HB.out HK.out))
      clear c0 c1 c2
      by_cases hn : (at0 L j).name = name
      · have hf : fidx name L = j := fidx_eq hs.out hn HX.out
        have HA2 : Hid (A = some ⟨g, j * 67, none⟩) := by show _ = _; rw [HA.out, hf, if_pos hjn]
        rw [decide_eq_true hn] at HC
        clear hn hf
        go_wp2_with fail
        refine HC.out.mono ?_
        rintro e w1 ⟨rfl, k1⟩
        have K1 := hide (HK.out.trans (k1.mono HK.out.size))
        clear k1
        go_wp2_with fail
        go_ret
        exact ⟨by rw [HA2.out]; rfl, K1.out⟩
      · rw [decide_eq_false hn] at HC
        have HX2 : Hid (∀ (k : Nat) (x : Sl), k < j + 1 → L[k]? = some x → x.name ≠ name) := fun k x hk hx => by
          rcases Nat.lt_or_ge k j with h1 | h1
          · exact HX.out k x h1 hx
          · obtain rfl : k = j := by omega
            rw [hs.out] at hx
            simp at hx
            subst hx
            exact hn
        clear hn
        go_wp2_with fail
        refine HC.out.mono ?_
        rintro e w1 ⟨rfl, k1⟩
        have K1 := hide (HK.out.trans (k1.mono HK.out.size))
        clear k1
        go_wp2_with fail
        go_roundw
        case rel => exact ⟨j + 1, by omega, by go_num, K1, HX2⟩
        case measure => simp [intOf]; omega
    · have hd : decide ((j : Int) < (N : Int)) = false := decide_eq_false (by omega)
      have HA2 : Hid (A = none) := by
        show _ = _
        rw [HA.out, fidx_none (fun k x hx => HX.out k x (by have := (List.getElem?_eq_some_iff.1 hx).1; have := HN.out; omega) hx), HN.out, if_neg (by omega)]
      go_wp2_with fail
      go_ret
      exact ⟨by rw [HA2.out]; rfl, HK.out⟩
set_option maxRecDepth 100000 in
set_option maxHeartbeats 2000000 in
theorem count_at (g b N : Nat) (L : List Sl) (now : Int) (w : World) (hN : L.length = N) (hr : Row w g L) (ho : okL L) (hm : N ≤ 4096) (hb : w.cell? ⟨b, 0, none⟩ = some (.int .i64 now)) :
    Calls Tryz.prog 80 #[.slice (some ⟨g, 0, none⟩) N N, .func (.func 104) #[] #[.pointer (some ⟨b, 0, none⟩)]] w fun e w' => e = .returned (.int .i64 (cnt L now N : Nat)) ∧ Below w.heap.size w w' := by
  have HR := hide hr
  have HO := hide ho
  have HB := hide hb
  have HN := hide hN
  clear hr ho hb hN
  go_enter Tryz.func80, Tryz.ntmps80
  go_wp2_with fail
  go_loopw [5, 9] (fun u v wr => ∃ j c : Nat, j ≤ N ∧ c ≤ j ∧ v = .int .i64 j ∧ u = .int .i64 c ∧ Hid (Below w.heap.size w wr) ∧ Hid (c = cnt L now j)) (fun _ v _ => N - (intOf v).toNat)
  case atStart => exact ⟨0, 0, Nat.zero_le _, Nat.zero_le _, rfl, rfl, Below.refl _ _, rfl⟩
  case round =>
    obtain ⟨j, c, hj, hc, rfl, rfl, HK, HX⟩ := hrel
    by_cases hjn : j < N
    · have hd : decide ((j : Int) < (N : Int)) = true := decide_eq_true (by omega)
      have hs : Hid (L[j]? = some (at0 L j)) := get_at0 (by rw [HN.out]; exact hjn)
      obtain ⟨c0, c1, c2⟩ := (HR.out.below HK.out).cells HO.out hs.out
      have HC := hide (c42_at g (j * 67) b (at0 L j).till now wr c1 (cell_below HB.out HK.out))
      clear c0 c1 c2
      by_cases hn : now < (at0 L j).till
      · have HX2 : Hid (c + 1 = cnt L now (j + 1)) := by show _ = _; rw [HX.out]; simp [cnt, hn]
        rw [decide_eq_true hn] at HC
        clear hn HX
        go_wp2_with fail
        refine HC.out.mono ?_
        rintro e w1 ⟨rfl, k1⟩
        have K1 := hide (HK.out.trans (k1.mono HK.out.size))
        clear k1
        go_wp2_with fail
        go_roundw
        case rel => exact ⟨j + 1, c + 1, by omega, by omega, by go_num, by go_num, K1, HX2⟩
        case measure => simp [intOf]; omega
      · have HX2 : Hid (c = cnt L now (j + 1)) := by show _ = _; rw [HX.out]; simp [cnt, hn]
        rw [decide_eq_false hn] at HC
        clear hn HX
        go_wp2_with fail
        refine HC.out.mono ?_
        rintro e w1 ⟨rfl, k1⟩
        have K1 := hide (HK.out.trans (k1.mono HK.out.size))
        clear k1
        go_wp2_with fail
        go_roundw
        case rel => exact ⟨j + 1, c, by omega, by omega, by go_num, by go_num, K1, HX2⟩
        case measure => simp [intOf]; omega
    · have hd : decide ((j : Int) < (N : Int)) = false := decide_eq_false (by omega)
      obtain rfl : j = N := by omega
      go_wp2_with fail
      go_ret
      exact ⟨by rw [← HX.out]; rfl, HK.out⟩
set_option maxRecDepth 100000 in
set_option maxHeartbeats 4000000 in
theorem least_at (g b c N : Nat) (L : List Sl) (now : Int) (name : ByteArray) (w : World) (hN : L.length = N) (hp : 0 < N) (hr : Row w g L) (ho : okL L) (hm : N ≤ 4096) (hb : w.cell? ⟨b, 0, none⟩ = some (.string name)) (hc : w.cell? ⟨c, 0, none⟩ = some (.int .i64 now)) :
    Calls Tryz.prog 94 #[.slice (some ⟨g, 0, none⟩) N N, .func (.func 115) #[] #[.pointer (some ⟨b, 0, none⟩), .pointer (some ⟨c, 0, none⟩)]] w fun e w' => e = .returned (.pointer (some ⟨g, place L now name * 67, none⟩)) ∧ Below w.heap.size w w' := by
  have HCL : Hid (∀ j, j < N → ∀ w' : World, Below w.heap.size w w' → Calls Tryz.prog 115 #[.pointer (some ⟨g, j * 67, none⟩), .pointer (some ⟨b, 0, none⟩), .pointer (some ⟨c, 0, none⟩)] w' fun e w'' => e = .returned (.int .i64 (rk L now name j)) ∧ Below w'.heap.size w' w'') := fun j hj w' k => by
    obtain ⟨c0, c1, c2⟩ := (hr.below k).cells ho (get_at0 (by rw [hN]; exact hj))
    exact c40_at g (j * 67) b c (at0 L j) name now w' c0 c1 (cell_below hb k) (cell_below hc k)
  have HP : Hid (place L now name = best (rk L now name) (N - 1)) := by show _ = _; unfold place; rw [hN]
  obtain ⟨R, hR⟩ : ∃ R, R = rk L now name := ⟨_, rfl⟩
  rw [← hR] at HCL HP
  obtain ⟨P, hP⟩ : ∃ P, P = place L now name := ⟨_, rfl⟩
  rw [← hP] at HP ⊢
  clear hr ho hb hc hN hR hP
  have hd0 : (((N : Nat) : Int) == 0) = false := by simp; omega
  have hd1 : decide (0 < (N : Int)) = true := decide_eq_true (by omega)
  have HC0 := hide (HCL.out 0 hp w (Below.refl _ _))
  rw [Nat.zero_mul] at HC0
  have HC0' : ∀ n, Calls Tryz.prog 115 #[.pointer (some ⟨g, 0, none⟩), .pointer (some ⟨b, 0, none⟩), .pointer (some ⟨c, 0, none⟩)] (w.drewN n) fun e w'' => e = .returned (.int .i64 (R 0)) ∧ Below w.heap.size w w'' := fun n => by
    have := HCL.out 0 hp (w.drewN n) (below_drewN (Below.refl _ _) n)
    rw [Nat.zero_mul] at this
    refine this.mono ?_
    rintro e w1 ⟨rfl, k1⟩
    exact ⟨rfl, (below_drewN (Below.refl _ _) n).trans k1⟩
  have HCZ := hide HC0'
  clear HC0'
  go_enter Tryz.func94, Tryz.ntmps94
  go_wp2_with fail
  go_region_with (go_at_call 115; refine (HCZ.out _).mono ?_; rintro e w1 ⟨rfl, k1⟩; have K1 := hide k1; clear k1)
  all_goals
    go_wp2_with fail
    go_loopw [5, 6, 7] (fun u v x wr => ∃ j p : Nat, 1 ≤ j ∧ j ≤ N ∧ p < j ∧ x = .int .i64 j ∧ u = .pointer (some ⟨g, p * 67, none⟩) ∧ v = .int .i64 (R p) ∧ Hid (Below w.heap.size w wr) ∧ Hid (p = best R (j - 1))) (fun _ _ x _ => N - (intOf x).toNat)
    case atStart => exact ⟨1, 0, by omega, by omega, by omega, rfl, by rw [Nat.zero_mul], rfl, by first | exact K1 | exact below_drewN K1.out _, rfl⟩
    case round =>
      obtain ⟨j, p, hj1, hj, hpj, rfl, rfl, rfl, HK, HX⟩ := hrel
      by_cases hjn : j < N
      · have hd : decide ((j : Int) < (N : Int)) = true := decide_eq_true (by omega)
        have HC := hide (HCL.out j hjn wr HK.out)
        obtain ⟨r, hr⟩ : ∃ r, r = R j := ⟨_, rfl⟩
        rw [← hr] at HC
        obtain ⟨q, hq⟩ : ∃ q, q = R p := ⟨_, rfl⟩
        rw [← hq]
        have HRj := hide hr
        have HRp := hide hq
        by_cases hlt : r < q
        · have HX2 : Hid (j = best R (j + 1 - 1)) := by
            show _ = _
            rw [show j + 1 - 1 = (j - 1) + 1 by omega]
            unfold best
            rw [show j - 1 + 1 = j by omega, ← HX.out, ← hr, ← hq, if_pos hlt]
          clear hr hq
          have hd2 : decide (r < q) = true := decide_eq_true hlt
          clear hlt
          go_wp2_with fail
          refine HC.out.mono ?_
          rintro e w1 ⟨rfl, k1⟩
          have K1 := hide (HK.out.trans (k1.mono HK.out.size))
          clear k1
          go_wp2_with fail
          go_roundw
          case rel => exact ⟨j + 1, j, by omega, by omega, by omega, by go_num, rfl, by rw [HRj.out], K1, HX2⟩
          case measure => simp [intOf]; omega
        · have HX2 : Hid (p = best R (j + 1 - 1)) := by
            show _ = _
            rw [show j + 1 - 1 = (j - 1) + 1 by omega]
            unfold best
            rw [show j - 1 + 1 = j by omega, ← HX.out, ← hr, ← hq, if_neg hlt]
          clear hr hq
          have hd2 : decide (r < q) = false := decide_eq_false hlt
          clear hlt
          go_wp2_with fail
          refine HC.out.mono ?_
          rintro e w1 ⟨rfl, k1⟩
          have K1 := hide (HK.out.trans (k1.mono HK.out.size))
          clear k1
          go_wp2_with fail
          go_roundw
          case rel => exact ⟨j + 1, p, by omega, by omega, by omega, by go_num, rfl, by rw [HRp.out], K1, HX2⟩
          case measure => simp [intOf]; omega
      · have hd : decide ((j : Int) < (N : Int)) = false := decide_eq_false (by omega)
        obtain rfl : j = N := by omega
        go_wp2_with fail
        go_ret
        exact ⟨by rw [HP.out, ← HX.out]; rfl, HK.out⟩
end Go.Proofs.YtabkelhipmijfaaGreatDoor.Nm

set_option linter.unusedSimpArgs false
set_option linter.unusedVariables false
namespace Go.Proofs.YtabkelhipmijfaaGreatDoor.Nm
open Go.RowKit
/-- The call's own addresses. -/
def OwnA (w : World) (B : Nat) (v : Value) (l : List Ad) : Prop := w.ownsRow B 39 4 v l.length (adCs l)
theorem OwnA.block {w : World} {B : Nat} {v : Value} {l : List Ad} (h : OwnA w B v l) {g : Nat} (hg : v.ownBlock = some g) : B ≤ g ∧ ∃ cur, w.heap[g]? = some (.cells cur 39) := by
  rcases h.2 with ⟨rfl, _⟩ | ⟨x, cap, cur, rfl, hx, hh, hrest⟩
  · cases hg
  · simp [Value.ownBlock] at hg
    subst hg
    exact ⟨hx, cur, hh⟩
theorem OwnA.keep {w w' : World} {B : Nat} {v : Value} {l : List Ad} (h : OwnA w B v l) (k : ∀ g, v.ownBlock = some g → w'.heap[g]? = w.heap[g]?) : OwnA w' B v l := by
  refine ⟨h.1, ?_⟩
  rcases h.2 with h0 | ⟨x, cap, cur, hv, hx, hh, hrest⟩
  · exact Or.inl h0
  · exact Or.inr ⟨x, cap, cur, hv, hx, (k x (by rw [hv]; rfl)).trans hh, hrest⟩
theorem OwnA.below {w w' : World} {B : Nat} {v : Value} {l : List Ad} (h : OwnA w B v l) (k : Below w.heap.size w w') : OwnA w' B v l :=
  h.keep fun g hg => by obtain ⟨_, cur, hh⟩ := h.block hg; exact k.block g (lt_of_some hh)
theorem OwnA.nil (w : World) (B : Nat) : OwnA w B (.slice none 0 0) [] := ⟨rfl, Or.inl ⟨rfl, rfl⟩⟩
theorem OwnA.shape {w : World} {B : Nat} {v : Value} {l : List Ad} (h : OwnA w B v l) : ∃ a cap, v = .slice a l.length cap := by
  rcases h.2 with ⟨rfl, h0⟩ | ⟨g, cap, cur, rfl, _⟩
  · exact ⟨none, 0, by rw [h0]⟩
  · exact ⟨_, cap, rfl⟩
theorem und30 : Tryz.prog.underlying 31 = some (.slice 39) := by kernel_rfl
theorem info37p : ∃ i, Tryz.prog.info? 39 = some i ∧ i.zero = some (.agg #[.int .u8 0, .int .u8 0, .int .u8 0, .int .u8 0]) ∧ i.size = 4 ∧ i.bytes = 4 := info_parts (by kernel_rfl)
/-- A slice of addresses wherever it lies. -/
structure SrcA (w : World) (a : Option Addr) (len cap : Nat) (l : List Ad) : Prop where
  hlen : l.length = len
  hcap : len ≤ cap
  hmax : cap ≤ maxLen
  nil : a = none → cap = 0
  lies : 0 < len → ∃ b o, a = some ⟨b, o, none⟩ ∧ b < w.heap.size ∧ ∀ j u, (adCs l)[j]? = some u → w.cell? ⟨b, o + j, none⟩ = some u
  byte : okA l
theorem SrcA.keep {w w' : World} {a : Option Addr} {len cap : Nat} {l : List Ad} (h : SrcA w a len cap l) (hk : 0 < len → ∀ b o, a = some ⟨b, o, none⟩ → w'.heap[b]? = w.heap[b]?) (hs : w.heap.size ≤ w'.heap.size) : SrcA w' a len cap l := by
  refine ⟨h.hlen, h.hcap, h.hmax, h.nil, fun h0 => ?_, h.byte⟩
  obtain ⟨b, o, e, hb, hc⟩ := h.lies h0
  exact ⟨b, o, e, by omega, fun j u hu => (World.cell?_of_block (hk h0 b o e)).trans (hc j u hu)⟩
theorem SrcA.lt {w : World} {a : Option Addr} {len cap : Nat} {l : List Ad} (h : SrcA w a len cap l) (h0 : 0 < len) {b o : Nat} (e : a = some ⟨b, o, none⟩) : b < w.heap.size := by
  obtain ⟨b', o', e', hb, hc⟩ := h.lies h0
  rw [e] at e'
  simp only [Option.some.injEq, Addr.mk.injEq, and_true] at e'
  omega
theorem SrcA.below {w w' : World} {a : Option Addr} {len cap : Nat} {l : List Ad} (h : SrcA w a len cap l) (k : Below w.heap.size w w') : SrcA w' a len cap l :=
  h.keep (fun h0 b o e => k.block b (h.lt h0 e)) k.size
theorem SrcA.nilS (w : World) : SrcA w none 0 0 [] := ⟨rfl, Nat.le_refl _, Nat.zero_le _, fun _ => rfl, fun h => by omega, by intro f hf; simp at hf⟩
theorem SrcA.at_ {w : World} {a : Option Addr} {len cap : Nat} {l : List Ad} (h : SrcA w a len cap l) {i : Nat} (hi : i < len) : ∃ b o, a = some ⟨b, o, none⟩ ∧ w.cell? ⟨b, o + 4 * i, none⟩ = some (.int .u8 ((l.getD i (0, 0, 0, 0)).1 : Nat)) ∧ w.cell? ⟨b, o + 4 * i + 1, none⟩ = some (.int .u8 ((l.getD i (0, 0, 0, 0)).2.1 : Nat)) ∧ w.cell? ⟨b, o + 4 * i + 2, none⟩ = some (.int .u8 ((l.getD i (0, 0, 0, 0)).2.2.1 : Nat)) ∧ w.cell? ⟨b, o + 4 * i + 3, none⟩ = some (.int .u8 ((l.getD i (0, 0, 0, 0)).2.2.2 : Nat)) := by
  obtain ⟨b, o, e, hb, hc⟩ := h.lies (by omega)
  obtain ⟨g1, g2, g3, g4⟩ := adCs_get l i (by rw [h.hlen]; exact hi)
  exact ⟨b, o, e, hc _ _ g1, by have := hc _ _ g2; rwa [← Nat.add_assoc] at this, by have := hc _ _ g3; rwa [← Nat.add_assoc] at this, by have := hc _ _ g4; rwa [← Nat.add_assoc] at this⟩
theorem OwnA.src {w : World} {B : Nat} {v : Value} {l : List Ad} (h : OwnA w B v l) (hb : okA l) : ∃ a cap, v = .slice a l.length cap ∧ SrcA w a l.length cap l ∧ (∀ b o, a = some ⟨b, o, none⟩ → B ≤ b) := by
  rcases h.2 with ⟨rfl, h0⟩ | ⟨g, cap, cur, rfl, hx, hh, hc, hm, hs, ht⟩
  · have : l = [] := List.length_eq_zero_iff.1 h0
    subst this
    exact ⟨none, 0, rfl, SrcA.nilS w, fun b o e => by cases e⟩
  · refine ⟨_, cap, rfl, ⟨rfl, hc, hm, (fun e => by cases e), fun _ => ⟨g, 0, rfl, lt_of_some hh, fun j u hu => ?_⟩, hb⟩, fun b o e => by cases e; exact hx⟩
    have hj := (List.getElem?_eq_some_iff.1 hu).1
    rw [adCs_len] at hj
    have : cur.toList[j]? = some u := by rw [← hu, ← ht, List.getElem?_take, if_pos (by omega)]
    rw [Nat.zero_add]
    simp only [World.cell?, hh]
    simpa using this
set_option maxRecDepth 100000 in
set_option maxHeartbeats 2000000 in
theorem same_addrs (w : World) (a b : Option Addr) (n c m d : Nat) (l : List Ad) (h1 : SrcA w a n c l) (h2 : SrcA w b m d l) : Calls Tryz.prog 12 #[.slice a n c, .slice b m d] w fun e w' => e = .returned (.bool true) ∧ Below w.heap.size w w' := by
  obtain rfl : m = n := by rw [← h2.hlen, ← h1.hlen]
  have H1 := hide h1
  have H2 := hide h2
  have hc1 := h1.hcap
  have hm1 := h1.hmax
  have hc2 := h2.hcap
  have hm2 := h2.hmax
  unfold maxLen at hm1 hm2
  clear h1 h2
  go_enter Tryz.func12, Tryz.ntmps12
  go_wp2_with fail
  go_loopw [5] (fun i wr => ∃ k : Nat, k ≤ m ∧ i = .int .i64 k ∧ Hid (Below w.heap.size w wr)) (fun i _ => m - (intOf i).toNat)
  case atStart => exact ⟨0, by omega, rfl, Below.refl _ _⟩
  case round =>
    obtain ⟨k, hk, rfl, HJ⟩ := hrel
    by_cases hkm : k < m
    · have hd : decide ((k : Int) < (m : Int)) = true := decide_eq_true (by omega)
      have s1 := H1.out.keep (w' := wr) (fun h0 b o e => HJ.out.block b (H1.out.lt h0 e)) HJ.out.size
      have s2 := H2.out.keep (w' := wr) (fun h0 b o e => HJ.out.block b (H2.out.lt h0 e)) HJ.out.size
      obtain ⟨xb, xo, rfl, e1, e2, e3, e4⟩ := s1.at_ hkm
      obtain ⟨yb, yo, rfl, f1, f2, f3, f4⟩ := s2.at_ hkm
      rw [Nat.mul_comm 4 k] at e1 e2 e3 e4 f1 f2 f3 f4
      generalize (l.getD k (0, 0, 0, 0)).1 = P1 at e1 f1
      generalize (l.getD k (0, 0, 0, 0)).2.1 = P2 at e2 f2
      generalize (l.getD k (0, 0, 0, 0)).2.2.1 = P3 at e3 f3
      generalize (l.getD k (0, 0, 0, 0)).2.2.2 = P4 at e4 f4
      clear s1 s2
      go_wp2_with fail
      go_region
      all_goals go_wp2_with fail
      go_roundw
      case rel => exact ⟨k + 1, by omega, by go_num, HJ.out.drew⟩
      case measure => simp [intOf]; omega
    · have hd : decide ((k : Int) < (m : Int)) = false := decide_eq_false (by omega)
      go_wp2_with fail
      go_ret
      exact ⟨rfl, HJ.out⟩
theorem own_new37 (w : World) : OwnA (w.alloc (.cells #[] 39)) w.heap.size (.slice (some ⟨w.heap.size, 0, none⟩) 0 0) [] :=
  ⟨rfl, Or.inr ⟨w.heap.size, 0, #[], rfl, Nat.le_refl _, alloc_new _ _, by simp, Nat.zero_le _, by simp, by simp [adCs]⟩⟩
/-- 'append(v, x...)', v the call's own addresses. -/
theorem run_appS {w : World} {B : Nat} {v : Value} {l : List Ad} (hown : OwnA w B v l) {a : Option Addr} {m c : Nat} {gs : List Ad} (hs : SrcA w a m c gs) (hlen : (l.length + m) * 4 ≤ 140737488355328) (hB : B ≤ w.heap.size) :
    ∃ v' w', (Builtin.append_ #[31, 31] 31 #[v, .slice a m c]).run Tryz.prog w = .ok v' w' ∧ OwnA w' B v' (l ++ gs) ∧ Below B w w' := by
  obtain ⟨i, hi, hz, hsz, hby⟩ := info37p
  cases a with
  | none =>
    have hc := hs.nil rfl
    have := hs.hcap
    obtain rfl : m = 0 := by omega
    obtain rfl : c = 0 := hc
    obtain rfl : gs = [] := List.eq_nil_of_length_eq_zero hs.hlen
    exact ⟨v, w, run_append_owned_none (P := Tryz.prog) w B 31 31 39 i 4 und30 hi v _ (adCs l) hown, by simpa using hown, Below.refl _ _⟩
  | some x =>
    obtain ⟨v', w', hr, ho, hg, _⟩ := run_append_own (P := Tryz.prog) w B 31 31 39 i _ 4 4 und30 hi hz hsz hby rfl (by omega) v l.length (adCs l) hown x m c (adCs gs) (by rw [adCs_len, hs.hlen])
      (fun j u hu => by
        have hj := (List.getElem?_eq_some_iff.1 hu).1
        rw [adCs_len, hs.hlen] at hj
        obtain ⟨b, o, e, _, hcell⟩ := hs.lies (by omega)
        simp at e
        subst e
        rw [add_none]
        exact hcell j u hu) (adCs_one _) (by unfold maxLen; omega) hlen hB
    refine ⟨v', w', hr, ?_, (Below.refl B w).grown hg hB (fun k hk => (hown.block hk).1)⟩
    unfold OwnA
    rw [adCs_append, List.length_append, hs.hlen]
    exact ho
/-- An append as one step. -/
def apOk (P : Program) (v u : Value) (w : World) : Bool := match (Builtin.append_ #[31, 31] 31 #[v, u]).run P w with
  | .ok _ _ => true
  | _ => false
def apV (P : Program) (v u : Value) (w : World) : Value := match (Builtin.append_ #[31, 31] 31 #[v, u]).run P w with
  | .ok x _ => x
  | _ => undef
def apW (P : Program) (v u : Value) (w : World) : World := match (Builtin.append_ #[31, 31] 31 #[v, u]).run P w with
  | .ok _ y => y
  | _ => w
theorem run_ap30 {v u : Value} {w : World} (h : apOk Tryz.prog v u w = true) : (Builtin.append_ #[31, 31] 31 #[v, u]).run Tryz.prog w = .ok (apV Tryz.prog v u w) (apW Tryz.prog v u w) := by
  unfold apOk at h
  unfold apV apW
  cases e : (Builtin.append_ #[31, 31] 31 #[v, u]).run Tryz.prog w with
  | ok x y => rfl
  | _ => simp [e] at h
theorem ap_of {v u v' : Value} {w w' : World} (h : (Builtin.append_ #[31, 31] 31 #[v, u]).run Tryz.prog w = .ok v' w') : apOk Tryz.prog v u w = true ∧ apV Tryz.prog v u w = v' ∧ apW Tryz.prog v u w = w' := by
  unfold apOk apV apW
  rw [h]
  exact ⟨rfl, rfl, rfl⟩
theorem run_opap (ρ : Operand → Value) (dst : Option Tmp) (x y : Operand) (pos : String) (after : Array Edge) (guard : Option (Nat × Bool)) (w : World) (h : apOk Tryz.prog (ρ x) (ρ y) w = true) :
    (execOp ρ { dst, op := .call { callee := .builtin .append, args := #[x, y], argTypes := #[31, 31] }, type := 31, pos, after, guard }).run Tryz.prog w = .ok (.value (apV Tryz.prog (ρ x) (ρ y) w)) (apW Tryz.prog (ρ x) (ρ y) w) := by
  unfold execOp
  simp only [resolve, invoke, builtin, Sem.run_bind, Sem.run_pure, Result.andThen_ok, List.map_toArray, List.map_cons, List.map_nil, run_ap30 h]


end Go.Proofs.YtabkelhipmijfaaGreatDoor.Nm
