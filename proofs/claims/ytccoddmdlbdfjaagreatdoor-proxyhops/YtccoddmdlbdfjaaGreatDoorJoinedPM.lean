/-
  An HTTP connection in numbers: what is sent on of a request, what a body is told by, own answers, and what the calls do; no program.; A connection as it lies in memory, and the small functions of package proxy: isMade, isAsking, reasonOf, answer, named; What a head that was read is made of, in numbers; no program.; conditions as each theorem has them.
-/
import Derived.Test.YtccoddmdlbdfjaaGreatDoorJoinedFN
import Derived.Test.YtccoddmdlbdfjaaGreatDoorV
import Derived.Test.YtccoddmdlbdfjaaGreatDoorJoinedPN
import Derived.Test.YtccoddmdlbdfjaaGreatDoorHH
import Derived.Test.YtccoddmdlbdfjaaGreatDoorHM
import Derived.Shelf.Abstract
import Derived.Deep.MidRow
import Derived.Test.YtccoddmdlbdfjaaGreatDoorBN
set_option linter.unusedSimpArgs false
set_option linter.unusedVariables false
namespace Go.Proofs.YtccoddmdlbdfjaaGreatDoor
open Go.RowKit

def hostN : List Nat := [72, 111, 115, 116]
def hostL : List Nat := [104, 111, 115, 116]
def connN : List Nat := [67, 111, 110, 110, 101, 99, 116, 105, 111, 110]
def clN : List Nat := [67, 111, 110, 116, 101, 110, 116, 45, 76, 101, 110, 103, 116, 104]
def teN : List Nat := [84, 114, 97, 110, 115, 102, 101, 114, 45, 69, 110, 99, 111, 100, 105, 110, 103]
def endV : List Nat := [99, 108, 111, 115, 101]
/-- A field of this name. -/
def isN (n : List Nat) (f : Fd) : Bool := decide (low f.1 = low n)
/-- Its own fields that are sent on. -/
def ownK (fs : List Fd) : List Fd := (somE fs false).1.filter fun f => !isN hostN f
def sentF (T : List Nat) (fs : List Fd) : List Fd := (hostN, T) :: (connN, endV) :: ownK fs
def sentL (p : List Nat) : List Nat := getM ++ 32 :: (p ++ 32 :: v11)
/-- What is sent on. -/
def sent (T p : List Nat) (fs : List Fd) : List Nat := fl (sentL p :: (sentF T fs).map fline)
def adL (l : List Nat) : Ad := (l.getD 0 0, l.getD 1 0, l.getD 2 0, l.getD 3 0)
/-- The destination's text. -/
def toT (d : De) : List Nat := if d.2 = 80 then hot (adL d.1.1) d.1.2 else det (adL d.1.1) d.1.2 (d.2 : Int)
def sentQ (q : Rq) (fs : List Fd) : List Nat := sent (toT q.2.1) q.2.2 fs
/-- Whether there is a body. -/
def body (fs : List Fd) : Bool := decide (1 < (get fs clN).2) || (decide ((get fs clN).2 = 1) && !decide ((get fs clN).1 = [48])) || fs.any (isN teN)
def rsn (c : Int) : List Nat :=
  if c = 200 then [79, 75] else if c = 400 then [66, 97, 100, 32, 82, 101, 113, 117, 101, 115, 116] else if c = 403 then [70, 111, 114, 98, 105, 100, 100, 101, 110] else
  if c = 501 then [78, 111, 116, 32, 73, 109, 112, 108, 101, 109, 101, 110, 116, 101, 100] else if c = 502 then [66, 97, 100, 32, 71, 97, 116, 101, 119, 97, 121] else
  if c = 503 then [83, 101, 114, 118, 105, 99, 101, 32, 85, 110, 97, 118, 97, 105, 108, 97, 98, 108, 101] else if c = 504 then [71, 97, 116, 101, 119, 97, 121, 32, 84, 105, 109, 101, 111, 117, 116] else []
def ownF (c : Int) : List Fd := if c = 200 then [] else [(clN, [48]), (connN, endV)]
/-- An own answer. -/
def own (c : Int) : List Nat := if rsn c = [] then [] else (putY c (rsn c) (ownF c)).1
def known (c : Int) : Prop := c = 200 ∨ c = 400 ∨ c = 403 ∨ c = 501 ∨ c = 502 ∨ c = 503 ∨ c = 504
theorem rsn_ne {c : Int} : rsn c ≠ [] ↔ known c := by
  unfold rsn known
  constructor
  · intro h
    repeat' split at h
    all_goals first | omega | simp at h
  · rintro (rfl | rfl | rfl | rfl | rfl | rfl | rfl) <;> simp
theorem own_no {c : Int} (h : ¬ known c) : own c = [] := by unfold own; rw [if_pos (Classical.not_not.1 fun x => h (rsn_ne.1 x))]
theorem own_zero : own 0 = [] := by decide +kernel
/-- A connection. -/
structure Cn where
  st : Nat
  q : Rq
  fs : List Fd
  said : Int
def Cn.new : Cn := ⟨0, noR, [], 0⟩
def ansC (c : Int) : Cn := ⟨if c = 200 then 3 else 5, noR, [], c⟩
def takeC (r : Rq × List Fd) : Cn :=
  if r.1.1 = getM then (if body r.2 = true ∨ 8192 < (sentQ r.1 r.2).length then ansC 400 else ⟨2, r.1, r.2, 0⟩) else
  if r.1.1 = conn then ⟨1, r.1, r.2, 0⟩ else ansC 501
/-- Bytes that wait, to a connection that reads. -/
def readC (l : List Nat) : Cn × Nat := if is6 (request l).2.2 = true then (Cn.new, 0) else if (request l).2.2 ≠ .ok then (ansC 400, l.length) else (takeC (request l).1, (request l).2.1)
def addC (C : Cn) (l : List Nat) : Cn × Nat := if C.st = 0 then readC l else (C, 0)
def asks (C : Cn) : Bool := decide (C.st = 1) || decide (C.st = 2)
def tellC (C : Cn) (c : Int) : Cn × Nat := if rsn c = [] ∨ (c = 200 ∧ C.st = 2) then (C, 2) else if asks C = false then (C, 150) else (ansC c, 0)
def passC (C : Cn) : Cn × Nat := if C.st = 2 then ({ C with st := 4 }, 0) else (C, 150)
def outC (C : Cn) : Cn := { C with said := 0 }
/-- What is sent on of a connection. -/
def sendsC (C : Cn) : List Nat := if C.st = 2 ∨ C.st = 4 then sentQ C.q C.fs else []

theorem getM_ne : getM ≠ conn := by decide
theorem own_known {c : Int} (h : known c) : own c = (putY c (rsn c) (ownF c)).1 := by unfold own; rw [if_neg (rsn_ne.2 h)]
/-- Each own answer is a head that is read as it must be. -/
theorem own_reply {c : Int} (h : known c) : reply (own c) = (((c.toNat, rsn c), ownF c), (own c).length, .ok) ∧ (own c).length ≤ 100 ∧ own c ≠ [] ∧ putY c (rsn c) (ownF c) = (own c, 0) := by
  rcases h with rfl | rfl | rfl | rfl | rfl | rfl | rfl <;> refine ⟨by decide +kernel, by decide +kernel, by decide +kernel, by decide +kernel⟩
theorem own_length {c : Int} (h : known c) (h2 : c ≠ 200) : lenv (ownF c) = some 0 := by
  rcases h with rfl | rfl | rfl | rfl | rfl | rfl | rfl
  · exact absurd rfl h2
  all_goals decide +kernel
theorem own_lt (c : Int) : ∀ x ∈ own c, x < 256 := by
  by_cases h : known c
  · rcases h with rfl | rfl | rfl | rfl | rfl | rfl | rfl <;> decide +kernel
  · rw [own_no h]; simp
theorem rsn_lt (c : Int) : ∀ x ∈ rsn c, x < 256 := by
  by_cases h : known c
  · rcases h with rfl | rfl | rfl | rfl | rfl | rfl | rfl <;> decide +kernel
  · rw [Classical.not_not.1 fun x => h (rsn_ne.1 x)]; simp
theorem get_any (fs : List Fd) (n : List Nat) : decide (0 < (get fs n).2) = fs.any (isN n) := by
  induction fs with
  | nil => rfl
  | cons f r ih =>
    rw [get, List.any_cons]
    unfold isN
    split
    · rename_i h; simp [h]
    · rename_i h
      rw [ih]
      simp [h]
      rfl
theorem get_low (fs : List Fd) (n : List Nat) : get fs n = get fs (low n) := by
  induction fs with
  | nil => rfl
  | cons f r ih => rw [get, get, low_low, ih]
end Go.Proofs.YtccoddmdlbdfjaaGreatDoor

set_option linter.unusedSimpArgs false
set_option linter.unusedVariables false
namespace Go.Proofs.YtccoddmdlbdfjaaGreatDoor
open Go.RowKit

/-- A request's cells, by letters. -/
structure Rc where
  m : ByteArray
  x0 : Nat
  x1 : Nat
  x2 : Nat
  x3 : Nat
  s : ByteArray
  p : Nat
  t : ByteArray
def Rc.arr (r : Rc) (v : Value) : Array Value := #[.string r.m, .int .u8 (r.x0 : Nat), .int .u8 (r.x1 : Nat), .int .u8 (r.x2 : Nat), .int .u8 (r.x3 : Nat), .string r.s, .int .i64 (r.p : Nat), .string r.t, v]
def Rc.of (q : Rq) (r : Rc) : Prop := q = (byt r.m, (([r.x0, r.x1, r.x2, r.x3], byt r.s), r.p), byt r.t)
def Rc.zero : Rc := ⟨⟨#[]⟩, 0, 0, 0, 0, ⟨#[]⟩, 0, ⟨#[]⟩⟩
theorem Rc.of_zero : Rc.of noR Rc.zero := rfl
theorem Rc.of_rqC {q : Rq} {r : Rc} (h : Rc.of q r) (v : Value) : rqC q v = r.arr v := by
  unfold Rc.of at h
  subst h
  simp only [rqC, Rc.arr, nums, strN_byt]
  rfl
/-- A connection's cells. -/
def cnA (st : Nat) (r : Rc) (v : Value) (said : Int) : List Value := [.bool true, .int .i64 (st : Nat), .string r.m, .int .u8 (r.x0 : Nat), .int .u8 (r.x1 : Nat), .int .u8 (r.x2 : Nat), .int .u8 (r.x3 : Nat), .string r.s, .int .i64 (r.p : Nat), .string r.t, v, .int .i64 said]
/-- A slice of fields that lies in neither of two blocks. -/
def OffF (a : Option Addr) (n b : Nat) : Prop := 0 < n → ∀ g o, a = some ⟨g, o, none⟩ → g ≠ b
/-- A connection in block b, its fields not in the block x. -/
def PC (w : World) (b x : Nat) (C : Cn) : Prop := ∃ (r : Rc) (a : Option Addr) (n c : Nat), Row w b 80 (cnA C.st r (.slice a n c) C.said) ∧ Rc.of C.q r ∧ SrcF w a n c C.fs ∧ OffF a n b ∧ OffF a n x
theorem PC.keep {w w' : World} {b x g : Nat} {C : Cn} (h : PC w b x C) (k : Kept g g w w') (hb : b ≠ g) (hx : x = g) : PC w' b x C := by
  obtain ⟨r, a, n, c, h1, h2, h3, h4, h5⟩ := h
  exact ⟨r, a, n, c, h1.kept k hb hb, h2, h3.keep (fun h0 g' o e => k.block g' (h3.lt h0 e) (by have := h5 h0 g' o e; omega) (by have := h5 h0 g' o e; omega)) k.size, h4, h5⟩
theorem PC.below {w w' : World} {b x : Nat} {C : Cn} (h : PC w b x C) (k : Below w.heap.size w w') : PC w' b x C := by
  obtain ⟨r, a, n, c, h1, h2, h3, h4, h5⟩ := h
  exact ⟨r, a, n, c, h1.below k h1.lt, h2, h3.below k, h4, h5⟩
theorem PC.lt {w : World} {b x : Nat} {C : Cn} (h : PC w b x C) : b < w.heap.size := by obtain ⟨r, a, n, c, h1, _⟩ := h; exact h1.lt
theorem Kept.trans2 {g : Nat} {a b c : World} (h : Kept g g a b) (k : Below b.heap.size b c) : Kept g g a c := h.trans (Kept.of_below k)

theorem isMade_at (b : Nat) (w : World) (h : w.cell? ⟨b, 0, none⟩ = some (.bool true)) : Calls Tryz.prog 36 #[.pointer (some ⟨b, 0, none⟩)] w fun e w' => e = .returned (.bool true) ∧ w = w' := by
  go_enter Tryz.func36, Tryz.ntmps36
  go_wp2_with fail
  go_ret
  exact ⟨rfl, rfl⟩
theorem isMade_nil (w : World) : Calls Tryz.prog 36 #[.pointer none] w fun e w' => e = .returned (.bool false) ∧ w = w' := by
  go_enter Tryz.func36, Tryz.ntmps36
  go_wp2_with fail
  go_ret
  exact ⟨rfl, rfl⟩
theorem isMade_zero (b : Nat) (w : World) (h : w.cell? ⟨b, 0, none⟩ = some (.bool false)) : Calls Tryz.prog 36 #[.pointer (some ⟨b, 0, none⟩)] w fun e w' => e = .returned (.bool false) ∧ w = w' := by
  go_enter Tryz.func36, Tryz.ntmps36
  go_wp2_with fail
  go_ret
  exact ⟨rfl, rfl⟩
theorem isAsking_at (b st : Nat) (w : World) (h : w.cell? ⟨b, 1, none⟩ = some (.int .i64 (st : Nat))) : Calls Tryz.prog 46 #[.pointer (some ⟨b, 0, none⟩)] w fun e w' => e = .returned (.bool (decide (st = 1) || decide (st = 2))) ∧ w = w' := by
  by_cases h1 : st = 1
  · subst h1
    go_enter Tryz.func46, Tryz.ntmps46
    go_wp2_with fail
    go_ret
    exact ⟨rfl, rfl⟩
  · have q1 : ((st : Int) == 1) = false := by simp; omega
    by_cases h2 : st = 2
    · subst h2
      clear h1
      go_enter Tryz.func46, Tryz.ntmps46
      go_wp2_with fail
      go_ret
      exact ⟨rfl, rfl⟩
    · have q2 : ((st : Int) == 2) = false := by simp; omega
      rw [decide_eq_false h1, decide_eq_false h2]
      clear h1 h2
      go_enter Tryz.func46, Tryz.ntmps46
      go_wp2_with fail
      go_ret
      exact ⟨rfl, rfl⟩
theorem reasonOf_at (c : Int) (w : World) : Calls Tryz.prog 45 #[.int .i64 c] w fun e w' => e = .returned (.string (strN (rsn c))) ∧ w = w' := by
  by_cases hk : known c
  · rcases hk with rfl | rfl | rfl | rfl | rfl | rfl | rfl
    all_goals
      go_enter Tryz.func45, Tryz.ntmps45
      go_wp2_with fail
      go_ret
      exact ⟨by first | rfl | decide +kernel, rfl⟩
  · have he : rsn c = [] := Classical.not_not.1 fun x => hk (rsn_ne.1 x)
    unfold known at hk
    have q0 : (c == 200) = false := by simp; omega
    have q1 : (c == 400) = false := by simp; omega
    have q2 : (c == 403) = false := by simp; omega
    have q3 : (c == 501) = false := by simp; omega
    have q4 : (c == 502) = false := by simp; omega
    have q5 : (c == 503) = false := by simp; omega
    have q6 : (c == 504) = false := by simp; omega
    rw [he]
    clear hk he
    go_enter Tryz.func45, Tryz.ntmps45
    go_wp2_with fail
    go_ret
    exact ⟨rfl, rfl⟩
end Go.Proofs.YtccoddmdlbdfjaaGreatDoor

set_option linter.unusedSimpArgs false
set_option linter.unusedVariables false
namespace Go.Proofs.YtccoddmdlbdfjaaGreatDoor
open Go.RowKit

/-- A right destination. -/
def DeOk (d : De) : Prop := ∃ x0 x1 x2 x3 n p, d = (([x0, x1, x2, x3], n), p) ∧ Ad.ok (x0, x1, x2, x3) ∧ chk (x0, x1, x2, x3) n = true ∧ 1 ≤ p ∧ p ≤ 65535
theorem host_len4 (l : List Nat) : (host l).1.1.length = 4 := by
  have ha : ∀ l, (addr l).1.length = 4 := by
    intro l
    have ho : ∀ (ps : List (List Nat)) (i a : Nat) (acc : List Nat), (octs i a ps acc).2 ≠ .ok → (octs i a ps acc).1.length = 4 := by
      intro ps
      induction ps with
      | nil => intro i a acc h; exact absurd rfl h
      | cons p ps ih =>
        intro i a acc h
        unfold octs at h ⊢
        split
        · rfl
        · rename_i h4
          rw [if_neg h4] at h
          split
          · rfl
          · rename_i n hn
            rw [hn] at h
            exact ih _ _ _ h
    unfold addr
    split
    · rfl
    · split
      · rfl
      · rename_i h1 h2
        by_cases hk : (octs 0 0 (pcs l) []).2 = .ok
        · have hl := octs_len (pcs l) 0 0 [] hk
          have h4 : ∀ (ps : List (List Nat)) (i a : Nat) (acc : List Nat), (octs i a ps acc).2 = .ok → i ≤ 4 → i + ps.length ≤ 4 := by
            intro ps
            induction ps with
            | nil => intro i a acc _ hi; simpa using hi
            | cons p ps ih =>
              intro i a acc h hi
              unfold octs at h
              split at h
              · cases h
              · split at h
                · cases h
                · have := ih _ _ _ h (by omega)
                  simp; omega
          have := h4 _ 0 0 [] hk (by omega)
          have hp : ¬ (pcs l).length < 4 := fun h => h2 ⟨hk, h⟩
          rw [hl]
          simp
          omega
        · exact ho _ _ _ _ hk
  unfold host
  split
  · rfl
  · split
    · exact ha l
    · rfl
theorem host_ok {l : List Nat} {h : Ho} (hh : host l = (h, .ok)) {p : Nat} (h1 : 1 ≤ p) (h2 : p ≤ 65535) : DeOk (h, p) := by
  have h4 := host_len4 l
  rw [hh] at h4
  obtain ⟨a, n⟩ := h
  obtain ⟨x0, x1, x2, x3, rfl⟩ := four h4
  obtain ⟨hc, _, ha⟩ := host_back hh
  exact ⟨x0, x1, x2, x3, n, p, rfl, ha, hc, h1, h2⟩
theorem dest_ok {l : List Nat} {d : De} (h : dest l = (d, .ok)) : DeOk d := by
  unfold dest at h
  split at h
  · cases h
  · split at h
    · cases h
    · rename_i c hc
      rcases hh : host (l.take c) with ⟨hd, e⟩
      rw [hh] at h
      cases e with
      | ok =>
        simp only at h
        rcases hp : port (l.drop (c + 1)) with ⟨p, e⟩
        rw [hp] at h
        cases e with
        | ok =>
          simp only [Prod.mk.injEq] at h
          obtain ⟨rfl, _⟩ := h
          obtain ⟨_, h1, h2⟩ := port_back hp
          exact host_ok hh h1 h2
        | one a c => cases h
        | two a b c => cases h
      | one a c => cases h
      | two a b c => cases h
theorem goToDe_ok {l : List Nat} {d : De} (h : goTo l = (d, .ok)) : DeOk d := by
  unfold goTo at h
  split at h
  · exact dest_ok h
  · rcases hh : host l with ⟨hd, e⟩
    rw [hh] at h
    cases e with
    | ok =>
      simp only [Prod.mk.injEq] at h
      obtain ⟨rfl, _⟩ := h
      exact host_ok hh (by omega) (by omega)
    | one a c => cases h
    | two a b c => cases h
theorem targ_ok {m t : List Nat} {q : Rq} (h : targ m t = (q, .ok)) : q.1 = m ∧ DeOk q.2.1 ∧ ((m = conn ∧ q.2.2 = []) ∨ (m ≠ conn ∧ path q.2.2 = true)) := by
  unfold targ at h
  split at h
  · rename_i hm
    split at h
    · rename_i d hd
      simp only [Prod.mk.injEq] at h
      obtain ⟨rfl, _⟩ := h
      exact ⟨rfl, dest_ok hd, Or.inl ⟨hm, rfl⟩⟩
    · cases h
  · rename_i hm
    split at h
    · cases h
    · rename_i hk
      split at h
      · rename_i d hd
        simp only [Prod.mk.injEq] at h
        obtain ⟨rfl, _⟩ := h
        refine ⟨rfl, goToDe_ok hd, Or.inr ⟨hm, ?_⟩⟩
        unfold okT at hk
        simp at hk
        exact hk.2
      · cases h
theorem rline_ok {x : List Nat} {q : Rq} (h : rline x = (q, .ok)) : tok q.1 = true ∧ DeOk q.2.1 ∧ ((q.1 = conn ∧ q.2.2 = []) ∨ (q.1 ≠ conn ∧ path q.2.2 = true)) := by
  unfold rline at h
  split at h
  · split at h
    · cases h
    · split at h
      · cases h
      · rename_i ht
        obtain ⟨e, hd, hp⟩ := targ_ok h
        rw [e]
        exact ⟨by simpa using ht, hd, hp⟩
  · cases h
theorem request_parts {l : List Nat} (h : (request l).2.2 = .ok) : tok (request l).1.1.1 = true ∧ DeOk (request l).1.1.2.1 ∧ (((request l).1.1.1 = conn ∧ (request l).1.1.2.2 = []) ∨ ((request l).1.1.1 ≠ conn ∧ path (request l).1.1.2.2 = true)) := by
  cases hl : hd l with
  | none => rw [request_none hl] at h; simp only at h; split at h <;> cases h
  | some ls =>
    obtain ⟨h1, h2, _⟩ := request_hd hl
    rw [h1] at h
    rw [h2 h]
    cases ls with
    | nil => simp [req] at h
    | cons x r =>
      rcases hr : rline x with ⟨q, e⟩
      cases e with
      | ok =>
        rcases hg : flds (x.length + 2) r [] with ⟨f, e⟩
        cases e with
        | ok =>
          simp only [req, hr, hg]
          exact rline_ok hr
        | one a c => simp [req, hr, hg] at h
        | wr a e => simp [req, hr, hg] at h
      | one a c => simp [req, hr] at h
      | wr a e => simp [req, hr] at h
theorem chk_name {a : Ad} {n : List Nat} (h : chk a n = true) : n.length ≤ 253 ∧ ∀ x ∈ n, x < 256 := by
  unfold chk at h
  simp at h
  rcases h with rfl | ⟨h, _⟩
  · simp
  · exact ⟨name_ok_len h, fun x hx => by rcases name_mem h x hx with rfl | hb; omega; have := lb_range hb; omega⟩
end Go.Proofs.YtccoddmdlbdfjaaGreatDoor
