/-
  A call of a port beside the reference's, whichever it is; A port that is refused, and what both tell of themselves; conditions as each theorem has them.
-/
import Derived.Test.YtjojhnkibgkleaaZI
import Derived.Test.YtjojhnkibgkleaaZJ
import Derived.Test.YtjojhnkibgkleaaZE
import Derived.Test.YtjojhnkibgkleaaZC
set_option linter.unusedSimpArgs false
set_option linter.unusedVariables false
set_option maxRecDepth 8000
namespace Go.Proofs.Ytjojhnkibgkleaa
open Go.RowKit Go.Lib

/-- What one call makes of a port: at most one output more. -/
def Next (P Q : Pt) : Prop := Q.ou.length ≤ P.ou.length + 1
theorem ev_ou (P : Pt) (k e N : Int) (d : ByteArray) : Next P (evP P k e N d) := by
  have := (evP_sz P k e N d).2.2.2
  unfold Next; rw [this]; omega
theorem acc_ou (P : Pt) : Next P (accP P) := by unfold Next accP; split <;> simp
theorem take_ou (P : Pt) (e k : Int) : Next P (takeP P e k) := by unfold Next takeP; split <;> simp
theorem send_ou (P : Pt) (e : Int) (l : List Int) : Next P (sendP P e l) := by unfold Next sendP; split <;> simp
theorem fin_ou (P : Pt) (e : Int) : Next P (finP P e) := by unfold Next finP; split <;> simp
theorem close_ou (P : Pt) (e : Int) : Next P (closeP P e) := by unfold Next closeP closeO; split <;> (try split) <;> simp
theorem dial_ou (P : Pt) (d : De) : Next P (dialP P d) := by unfold Next dialP; split <;> simp
theorem post_ou (P : Pt) (l : List Int) : Next P (postP P l) := by unfold Next postP; split <;> simp
theorem play_at {B : Nat} {w : World} {b y : Nat} {P : Pt} (h : Two nob nob B w b y P P) (hB : B ≤ w.heap.size) (x : Ac) (hx : x.In) (hlen : P.ou.length ≤ 1900000000000) : Calls Try.prog 17 #[.pointer (some ⟨b, 0, none⟩), .pointer (some ⟨y, 0, none⟩), .agg x.cs.toArray] w fun e w' => e = .returned (.bool true) ∧ ∃ Q, Two nob nob B w' b y Q Q ∧ Next P Q ∧ Below B w w' := by
  obtain ⟨k, hk, am⟩ := among_k x.k 14 (by omega) (by omega)
  have go : ∀ Q, Next P Q → Calls Try.prog 17 #[.pointer (some ⟨b, 0, none⟩), .pointer (some ⟨y, 0, none⟩), .agg x.cs.toArray] w (Played B w b y Q) → Calls Try.prog 17 #[.pointer (some ⟨b, 0, none⟩), .pointer (some ⟨y, 0, none⟩), .agg x.cs.toArray] w fun e w' => e = .returned (.bool true) ∧ ∃ Q, Two nob nob B w' b y Q Q ∧ Next P Q ∧ Below B w w' := fun Q hn hc => hc.mono fun e w' ⟨e1, e2, e3⟩ => ⟨e1, Q, e2, hn, e3⟩
  have hkk : k = 0 ∨ k = 1 ∨ k = 2 ∨ k = 3 ∨ k = 4 ∨ k = 5 ∨ k = 6 ∨ k = 7 ∨ k = 8 ∨ k = 9 ∨ k = 10 ∨ k = 11 ∨ k = 12 ∨ k = 13 := by omega
  rcases hkk with rfl | rfl | rfl | rfl | rfl | rfl | rfl | rfl | rfl | rfl | rfl | rfl | rfl | rfl
  · exact go _ (ev_ou ..) (play_event0 h hB x hx hlen am)
  · exact go _ (ev_ou ..) (play_event1 h hB x hx hlen am)
  · exact go _ (ev_ou ..) (play_event2 h hB x hx hlen am)
  · exact go _ (ev_ou ..) (play_event3 h hB x hx hlen am)
  · exact go _ (acc_ou ..) (play_accept h hB x hx hlen am)
  · exact go _ (take_ou ..) (play_take h hB x hx hlen am)
  · exact go _ (show P.ou.length ≤ P.ou.length + 1 by omega) (play_peek h hB x hx hlen am)
  · exact go _ (send_ou ..) (play_send h hB x hx hlen am)
  · exact go _ (fin_ou ..) (play_fin h hB x hx hlen am)
  · exact go _ (close_ou ..) (play_close h hB x hx hlen am)
  · exact go _ (dial_ou ..) (play_dial h hB x hx hlen am)
  · exact go _ (by unfold Next gramP; simp) (play_gram h hB x hx hlen am)
  · exact go _ (post_ou ..) (play_post h hB x hx hlen am)
  · exact go _ (by unfold Next outsP; simp) (play_outs h hB x hx hlen am)
/-- What the clone's own calls are made beside: the one's memory lies in F alone. -/
theorem takeFF {F : Nat → Prop} {w : World} {b : Nat} {P : Pt} (h : PF F w b P) (hF : ∀ k, w.heap.size ≤ k → F k) (e n : Int) : Calls Try.prog 14 #[.pointer (some ⟨b, 0, none⟩), .int .i64 e, .int .i64 n] w fun x w' => (∃ v, x = .returned v) ∧ PF F w' b (takeP P e n) ∧ KeptS F w w' := by
  obtain ⟨S, ⟨eb, gv, ov, R, G, h⟩, hS⟩ := h
  exact (take_at h e n).mono fun x w' ⟨v, e0, e1, e2, e3⟩ => ⟨⟨v, e0⟩, PF.mk2 hF hS e2 e3⟩
theorem close_FF {F : Nat → Prop} {w : World} {b : Nat} {P : Pt} (h : PF F w b P) (hF : ∀ k, w.heap.size ≤ k → F k) (e : Int) (hlen : P.ou.length ≤ 1900000000000) : Calls Try.prog 15 #[.pointer (some ⟨b, 0, none⟩), .int .i64 e] w fun x w' => (∃ c, x = .returned (.int .i64 c)) ∧ PF F w' b (closeP P e) ∧ KeptS F w w' := by
  obtain ⟨S, ⟨eb, gv, ov, R, G, h⟩, hS⟩ := h
  exact (close_at h e hlen).mono fun x w' ⟨e0, e2, e3⟩ => ⟨⟨_, e0⟩, PF.mk2 hF hS e2 e3⟩
theorem post_FF {F : Nat → Prop} {w : World} {b : Nat} {P : Pt} (h : PF F w b P) (hF : ∀ k, w.heap.size ≤ k → F k) (hlen : P.ou.length ≤ 1900000000000) : Calls Try.prog 16 #[.pointer (some ⟨b, 0, none⟩), .slice none 0 0] w fun x w' => (∃ c, x = .returned (.int .i64 c)) ∧ PF F w' b (postP P []) ∧ KeptS F w w' := by
  obtain ⟨S, ⟨eb, gv, ov, R, G, h⟩, hS⟩ := h
  exact (post_at h hlen none 0 0 [] ⟨rfl, Nat.le_refl _, Nat.zero_le _, fun _ => rfl, fun hh => absurd hh (by decide), by simp⟩).mono fun x w' ⟨e0, e2, e3⟩ => ⟨⟨_, e0⟩, PF.mk2 hF hS e2 e3⟩
/-- A clone beside the reference's: the one that was cloned lies in F, which they do not. -/
theorem Two.clone {B : Nat} {w : World} {b y : Nat} {P : Pt} (h : Two nob nob B w b y P P) (hB : B ≤ w.heap.size) (hlen : P.ou.length ≤ 1900000000000) : Calls Try.prog 12 #[.pointer (some ⟨b, 0, none⟩)] w fun x w' => ∃ c, x = .returned (.pointer (some ⟨c, 0, none⟩)) ∧ Below w.heap.size w w' ∧ ∃ F : Nat → Prop, PF F w' b P ∧ (∀ k, w'.heap.size ≤ k → F k) ∧ (∀ k, F k → B ≤ k) ∧ ∀ W, KeptS F w' W → Two nob nob B W c y P P := by
  obtain ⟨S, T, ⟨eb, gv, ov, R, G, h1⟩, h2, h3, h4, h5⟩ := h
  refine (clone_P h1 hlen).mono ?_
  rintro x w' ⟨c, rfl, hc, hb⟩
  have hlt := h1.lt
  refine ⟨c, rfl, hb, fun k => S k ∨ w'.heap.size ≤ k, ⟨S, (Port.of h1).below hb, fun k hk => Or.inl hk⟩, fun k hk => Or.inr hk, fun k hk => hk.elim (fun s => (h4 k s).1) (fun s => Nat.le_trans hB (Nat.le_trans hb.size s)), fun W k => ?_⟩
  have h2' : RPort w' T y P := by
    obtain ⟨_, _, _, _, _, _, _, _, h2⟩ := h2
    exact RPort.of (h2.below hb)
  have hl2 := h2.lt
  refine ⟨_, T, hc.off k (fun i hi q => q.elim (fun s => by have := hlt i s; omega) (fun s => by omega)), h2'.off k (fun i hi q => q.elim (fun s => h3 i s hi) (fun s => by have := hl2 i hi; have := hb.size; omega)), fun i hi ht => by have := hl2 i ht; omega, fun i hi => ⟨Nat.le_trans hB hi.1, fun x => x⟩, fun i hi => ⟨(h5 i hi).1, fun x => x⟩⟩
end Go.Proofs.Ytjojhnkibgkleaa

set_option linter.unusedSimpArgs false
set_option linter.unusedVariables false
set_option maxRecDepth 8000
namespace Go.Proofs.Ytjojhnkibgkleaa
open Go.RowKit Go.Lib

set_option maxHeartbeats 1000000 in
theorem rnew_bad (c s n : Int) (w : World) (h : badNew c s n) :
    Calls Try.prog 10 #[.int .i64 c, .int .i64 s, .int .i64 n] w fun e w' => e = .returned (.tuple #[.pointer none, .int .i64 2]) ∧ w = w' := by
  by_cases h0 : c < 0
  · clear h
    go_enter Try.func10, Try.ntmps10
    go_wp2_with fail
    go_ret2
    exact ⟨rfl, rfl⟩
  ·
    by_cases h1 : 64 < c
    · clear h
      go_enter Try.func10, Try.ntmps10
      go_wp2_with fail
      go_ret2
      exact ⟨rfl, rfl⟩
    ·
      by_cases h2 : s < 0
      · clear h
        go_enter Try.func10, Try.ntmps10
        go_wp2_with fail
        go_ret2
        exact ⟨rfl, rfl⟩
      ·
        by_cases h3 : 64 < s
        · clear h
          go_enter Try.func10, Try.ntmps10
          go_wp2_with fail
          go_ret2
          exact ⟨rfl, rfl⟩
        ·
          by_cases h4 : n < 1
          · clear h
            go_enter Try.func10, Try.ntmps10
            go_wp2_with fail
            go_ret2
            exact ⟨rfl, rfl⟩
          ·
            by_cases h5 : 65536 < n
            · clear h
              go_enter Try.func10, Try.ntmps10
              go_wp2_with fail
              go_ret2
              exact ⟨rfl, rfl⟩
            ·
              unfold badNew at h; omega
theorem Two.ends {X Z : Nat → Prop} {B : Nat} {w : World} {b y : Nat} {P Q : Pt} (h : Two X Z B w b y P Q) : ∃ ea ec, w.cell? ⟨y, 2, none⟩ = some (.slice ea Q.L.length ec) ∧ Q.L.length ≤ ec ∧ ec ≤ maxLen ∧ Q.L.length ≤ 128 := by
  obtain ⟨S, T, h1, ⟨eb, ec, ea, bv, ov, Y, V, E, h2⟩, _⟩ := h
  exact ⟨ea, ec, h2.cells.2.2.1, h2.cap.1, h2.cap.2, h2.ok.n⟩
theorem Two.usedp {X Z : Nat → Prop} {B : Nat} {w : World} {b y : Nat} {P Q : Pt} (h : Two X Z B w b y P Q) : Calls Try.prog 19 #[.pointer (some ⟨b, 0, none⟩)] w fun x w' => x = .returned (.int .i64 (usedN P : Nat)) ∧ Below w.heap.size w w' := by
  obtain ⟨S, T, ⟨eb, gv, ov, R, G, h1⟩, _⟩ := h
  exact used_at h1
theorem Two.usedr {X Z : Nat → Prop} {B : Nat} {w : World} {b y : Nat} {P Q : Pt} (h : Two X Z B w b y P Q) : Calls Try.prog 20 #[.pointer (some ⟨y, 0, none⟩)] w fun x w' => x = .returned (.int .i64 (usedN Q : Nat)) ∧ w = w' := by
  obtain ⟨S, T, h1, ⟨eb, ec, ea, bv, ov, Y, V, E, h2⟩, _⟩ := h
  exact used_r h2
theorem act_mid {w : World} {b o i : Nat} {x : Ac} (h : AcAt w b o i x) : w.rangeAt b (o + i * 12) x.cs := fun j v hv => h.cell j v hv
theorem act_cells {w : World} {b o i : Nat} {x : Ac} (h : AcAt w b o i x) : w.cell? ⟨b, o + i * 12, none⟩ = some (.int .i64 x.k) ∧ w.cell? ⟨b, o + i * 12 + 2, none⟩ = some (.int .i64 x.e.e) := ⟨h.cell 0 _ rfl, h.cell 2 _ rfl⟩
theorem infoAct : (Try.prog.info? 41).map (·.size) = some 12 := by kernel_rfl
/-- Both made. -/
theorem Two.made {w w1 w2 : World} {b y : Nat} {P : Pt} (h : Port w1 (fun k => w.heap.size ≤ k ∧ k < w1.heap.size) b P) (k1 : Below w.heap.size w w1) (r : RPort w2 (fun k => w1.heap.size ≤ k ∧ k < w2.heap.size) y P) (k2 : Below w1.heap.size w1 w2) : Two nob nob w.heap.size w2 b y P P :=
  ⟨_, _, h.below k2, r, fun k h1 h2 => by omega, fun k h1 => ⟨h1.1, fun x => x⟩, fun k h1 => ⟨Nat.le_trans k1.size h1.1, fun x => x⟩⟩
end Go.Proofs.Ytjojhnkibgkleaa
