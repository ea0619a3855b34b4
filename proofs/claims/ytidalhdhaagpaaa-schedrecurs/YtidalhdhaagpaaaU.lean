/-
  SchedRecurs' walk; conditions as each theorem has them.
-/
import Derived.Test.YtidalhdhaagpaaaS
set_option linter.unusedSimpArgs false
set_option linter.unusedVariables false
namespace Go.Proofs.Ytidalhdhaagpaaa
open Go.RowKit

/-- Has an own slot been met from f on? -/
def Met (ob : Bool) (T : List (Int × Int)) (t : Int) (f j : Nat) : Prop := ob = true ↔ ∃ i, i < j ∧ own T t (f + i)
theorem Met.here {T : List (Int × Int)} {t : Int} {f j : Nat} (h : own T t (f + j)) : Met true T t f (j + 1) := ⟨fun _ => ⟨j, by omega, h⟩, fun _ => rfl⟩
theorem Met.on {T : List (Int × Int)} {t : Int} {f j : Nat} (h : Met true T t f j) : Met true T t f (j + 1) := ⟨fun _ => by
  obtain ⟨i, hi, ho⟩ := h.1 rfl
  exact ⟨i, by omega, ho⟩, fun _ => rfl⟩
theorem Met.not {T : List (Int × Int)} {t : Int} {f j : Nat} (h : Met false T t f j) (hn : ¬ own T t (f + j)) : Met false T t f (j + 1) := ⟨fun e => (by cases e), fun ⟨i, hi, ho⟩ => by
  rcases Nat.lt_or_ge i j with hl | hl
  · exact h.2 ⟨i, hl, ho⟩
  · obtain rfl : i = j := by omega
    exact absurd ho hn⟩

set_option maxRecDepth 100000 in
set_option maxHeartbeats 4000000 in
theorem recurs_walk (a : Option Addr) (b o n cap : Nat) (T : List (Int × Int)) (t fr : Int) (w : World) (h : Tab w a b o n T) :
    Calls Try.prog 6 #[.slice a n cap, .int .i64 t, .int .i64 fr] w fun e w' => e = .returned (.bool true) ∧ Below w.heap.size w w' := by
  have hlen := h.len
  have H := hide h
  clear h
  by_cases hg : Good T ∧ 0 ≤ t ∧ 0 < C T t T.length
  · obtain ⟨hg, ht, hc⟩ := hg
    have hn0 := hg.posn H.out
    have hn1 := hg.maxn H.out
    obtain ⟨rfl, hb⟩ := H.out.ptr hn0
    have hcn : 0 < C T t n := by rw [← hlen]; exact hc
    have hnz : ¬ ((n : Int) = 0) := by omega
    have HGP : Hid (∀ wx, Tab wx (some ⟨b, o, none⟩) b o n T → Calls Try.prog 21 #[.slice (some ⟨b, o, none⟩) n cap, .int .i64 t] wx fun e w' => ∃ g : Nat, e = .returned (.tuple #[.int .i64 g, .int .i64 0]) ∧ IsGap T t g ∧ Below wx.heap.size wx w') := fun wx hx =>
      gap_ok (some ⟨b, o, none⟩) b o n cap T t wx hx hg ht hcn
    have HR : Hid (∀ wx, Tab wx (some ⟨b, o, none⟩) b o n T → ∀ j : Nat, j ≤ 100000000000 → ∃ x y, (own T t j ↔ x = t) ∧ Calls Try.prog 9 #[.slice (some ⟨b, o, none⟩) n cap, .int .i64 j] wx fun e w' => e = .returned (.tuple #[slt x y, .int .i64 0]) ∧ Below wx.heap.size wx w') := fun wx hx j hj => by
      obtain ⟨p, hp⟩ := run_has hlen hn0 j
      exact ⟨p.1, p.2, own_at (by rw [hlen]; exact hp), run_ok (some ⟨b, o, none⟩) b o n cap T j p wx hx hg (by omega) hp⟩
    have HLEN := hide hlen
    clear hg hc hcn hlen ht hb
    go_enter Try.func6, Try.ntmps6
    go_wp2_with fail
    refine (works_at w).mono ?_
    rintro e w1 ⟨rfl, b1⟩
    have B1 := hide b1
    clear b1
    go_wp2_with fail
    refine (HGP.out w1 (H.out.below B1.out)).mono ?_
    rintro e w2 ⟨g, rfl, hgap, b2⟩
    have B2 := hide (Below.then B1.out b2)
    have hg1 := hgap.pos
    have hg2 := hgap.le (by rw [HLEN.out]; exact hn0)
    rw [HLEN.out] at hg2
    have HGAP := hide hgap
    clear b2 B1 HGP hgap
    have e1 : decide ((g : Int) < 1) = false := decide_eq_false (by omega)
    have e1' : decide (g < 1) = false := decide_eq_false (by omega)
    have e2 : decide ((n : Int) < g) = false := decide_eq_false (by omega)
    have e2' : decide (n < g) = false := decide_eq_false (by omega)
    go_wp2_with fail
    refine (Among_at fr 1073741824 (by omega) (by omega) w2).mono ?_
    rintro e w3 ⟨f, hf, rfl, rfl⟩
    clear e1 e1' e2 e2'
    go_wp2_with fail
    go_loopw [9, 10] (fun s i wr => ∃ (j : Nat) (ob : Bool), j ≤ g ∧ i = .int .i64 j ∧ s = .bool ob ∧ Hid (Met ob T t f j) ∧ Hid (Below w.heap.size w wr)) (fun _ i _ => g - (intOf i).toNat)
    case atStart => exact ⟨0, false, Nat.zero_le _, rfl, rfl, ⟨fun e => (by cases e), fun ⟨i, hi, _⟩ => by omega⟩, B2.out⟩
    case round =>
      clear B2
      obtain ⟨j, ob, hj, rfl, rfl, HS, BJ⟩ := hrel
      by_cases hlt : j < g
      · obtain ⟨x, y, hz, hr⟩ := HR.out wr (H.out.below BJ.out) (f + j) (by omega)
        rw [Int.natCast_add] at hr
        have HRJ := hide hr
        clear hr
        by_cases hx : x = t
        · subst hx
          have HOW : Hid (own T x (f + j)) := hz.2 rfl
          clear hz
          go_wp2_with fail
          refine HRJ.out.mono ?_
          rintro e w7 ⟨rfl, b7⟩
          have B7 := hide (Below.alw (Below.then BJ.out b7) (boxS x y))
          clear b7 HRJ
          cases ob
          · go_wp2_with fail
            go_roundw
            case rel => exact ⟨j + 1, true, by omega, by go_num, rfl, Met.here HOW.out, B7.out⟩
            case measure => simp [intOf]; omega
          · go_wp2_with fail
            go_roundw
            case rel => exact ⟨j + 1, true, by omega, by go_num, rfl, Met.here HOW.out, B7.out⟩
            case measure => simp [intOf]; omega
        · have HOW : Hid (¬ own T t (f + j)) := fun e => hx (hz.1 e)
          have hx2 : (x == t) = false := by simp [hx]
          clear hz
          go_wp2_with fail
          refine HRJ.out.mono ?_
          rintro e w7 ⟨rfl, b7⟩
          have B7 := hide (Below.alw (Below.then BJ.out b7) (boxS x y))
          clear b7 HRJ
          cases ob
          · go_wp2_with fail
            go_roundw
            case rel => exact ⟨j + 1, false, by omega, by go_num, rfl, HS.out.not HOW.out, B7.out⟩
            case measure => simp [intOf]; omega
          · go_wp2_with fail
            go_roundw
            case rel => exact ⟨j + 1, true, by omega, by go_num, rfl, HS.out.on, B7.out⟩
            case measure => simp [intOf]; omega
      · have hob : ob = true := HS.out.2 (by
          obtain ⟨i, hi, ho⟩ := HGAP.out.within f
          exact ⟨i, by omega, ho⟩)
        subst hob
        clear HS HR
        have HT := hide (H.out.below BJ.out)
        go_wp2_with fail
        go_loopw [13, 14] (fun s i wy => ∃ (i' m : Nat), i' ≤ n ∧ m ≤ n ∧ i = .int .i64 i' ∧ s = .int .i64 m ∧ Hid (Wid T t i' m) ∧ wr = wy) (fun _ i _ => n - (intOf i).toNat)
        case atStart => exact ⟨0, 0, Nat.zero_le _, Nat.zero_le _, rfl, rfl, Wid.start T t, rfl⟩
        case round =>
          obtain ⟨i', m, hi, hm, rfl, rfl, HW, rfl⟩ := hrel
          by_cases hin : i' < n
          · go_wp2_with fail
            go_loopw [15] (fun i wz => ∃ e : Nat, e ≤ n ∧ i = .int .i64 e ∧ Hid (∀ c, c < e → ¬ own T t (i' + c)) ∧ wr = wz) (fun i _ => n + 1 - (intOf i).toNat)
            case atStart => exact ⟨0, Nat.zero_le _, rfl, fun c hc => by omega, rfl⟩
            case round =>
              obtain ⟨e, he, rfl, HE, rfl⟩ := hrel
              have hen : e < n := by
                obtain ⟨c, hc1, hc2⟩ := HGAP.out.within i'
                rcases Nat.lt_or_ge e n with g1 | g1
                · exact g1
                · exact absurd hc2 (HE.out c (by omega))
              obtain ⟨s, hs⟩ : ∃ s, s = (i' + e) % n := ⟨_, rfl⟩
              have hsn : s < n := by rw [hs]; exact Nat.mod_lt _ hn0
              have hrem : ((i' : Int) + (e : Int)).tmod (n : Int) = (s : Int) := by rw [hs, ← rem_nat]; rfl
              obtain ⟨p, hp⟩ := get_lt (show s < T.length by rw [HLEN.out]; omega)
              obtain ⟨x', y'⟩ := p
              obtain ⟨c0', c1'⟩ := HT.out.cells s _ hp
              simp only at c0' c1'
              have hown : own T t (i' + e) ↔ x' = t := own_at (by rw [HLEN.out, ← hs]; exact hp)
              have e3 : decide ((e : Int) < n) = true := decide_eq_true (by omega)
              have e3' : decide (e < n) = true := decide_eq_true (by omega)
              clear hp c1' hs
              by_cases hx : x' = t
              · subst hx
                have HOK : Hid (own T x' (i' + e)) := hown.2 rfl
                have HN := hide (HW.out.next (n := e) (by rw [HLEN.out]; exact he) ⟨HE.out, HOK.out⟩)
                clear hown
                by_cases hgk : m < e
                · have hgk1 : (m : Int) < e := by omega
                  rw [Nat.max_eq_right (by omega)] at HN
                  go_wp2_with fail
                  go_roundw
                  case rel => exact ⟨i' + 1, e, by omega, by omega, by go_num, rfl, HN.out, trivial⟩
                  case measure => simp [intOf]; omega
                · have hgk1 : (e : Int) ≤ m := by omega
                  rw [Nat.max_eq_left (by omega)] at HN
                  go_wp2_with fail
                  go_roundw
                  case rel => exact ⟨i' + 1, m, by omega, by omega, by go_num, rfl, HN.out, trivial⟩
                  case measure => simp [intOf]; omega
              · have HNE : Hid (¬ own T t (i' + e)) := fun e => hx (hown.1 e)
                have hx2 : (x' != t) = true := by simp [hx]
                clear hown
                go_wp2_with fail
                go_roundw
                case rel => exact ⟨e + 1, by omega, by go_num, fun c h1 => by
                  rcases Nat.lt_or_ge c e with g1 | g1
                  · exact HE.out c g1
                  · obtain rfl : c = e := by omega
                    exact HNE.out, trivial⟩
                case measure => simp [intOf]; omega
          · have hin2 : i' = n := by omega
            have hmg : m + 1 = g := Wid.gap (by rw [HLEN.out, ← hin2]; exact HW.out) HGAP.out (by rw [HLEN.out]; exact hn0)
            have e5 : (g : Int) - 1 = m := by omega
            clear hin2 hmg
            go_wp2_with fail
            go_ret
            exact ⟨rfl, BJ.out⟩
  · have hw : ∃ c : Int, (c = 50 ∨ c = 2) ∧ errO T t = c := by
      by_cases hg2 : Good T
      · exact ⟨2, Or.inr rfl, errO_arg hg2 (fun e => hg ⟨hg2, e.1, e.2⟩)⟩
      · exact ⟨50, Or.inl rfl, errO_bad hg2 t⟩
    obtain ⟨c, hc, he⟩ := hw
    have HW : Hid (∀ wx, Tab wx a b o n T → Calls Try.prog 21 #[.slice a n cap, .int .i64 t] wx fun e w' => e = .returned (.tuple #[.int .i64 0, .int .i64 c]) ∧ Below wx.heap.size wx w') := fun wx hx => gap_bad a b o n cap T t c wx hx he hc
    have hcz : (c != 0) = true := by rcases hc with rfl | rfl <;> rfl
    have hcz2 : ¬ (c = 0) := by omega
    clear hg he hc hlen
    go_enter Try.func6, Try.ntmps6
    go_wp2_with fail
    refine (works_at w).mono ?_
    rintro e w1 ⟨rfl, b1⟩
    have B1 := hide b1
    clear b1
    go_wp2_with fail
    refine (HW.out w1 (H.out.below B1.out)).mono ?_
    rintro e w2 ⟨rfl, b2⟩
    have B2 := hide (Below.then B1.out b2)
    clear b2 B1 HW
    go_wp2_with fail
    go_ret
    exact ⟨rfl, B2.out⟩

end Go.Proofs.Ytidalhdhaagpaaa
