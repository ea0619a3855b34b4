/-
  What is written as a question or as an answer is read as it was, in numbers; no program.; putAddr, and putNumbers with what else stays; isAnswer; PutAnswer; conditions as each theorem has them.
-/
import Derived.Test.YtabkelhipmijfaaGreatDoorPD
import Derived.Test.YtabkelhipmijfaaGreatDoorJoined6
import Derived.Test.YtabkelhipmijfaaGreatDoorJoined11
set_option linter.unusedSimpArgs false
set_option linter.unusedVariables false
namespace Go.Proofs.YtabkelhipmijfaaGreatDoor
/-- An address' record. -/
def adr (tl : Nat) (a : Ad) : List Nat := nums2 [49164, 1, 1, tl / 65536, tl, 4] ++ [a.1, a.2.1, a.2.2.1, a.2.2.2]
def putA (id cd tl : Nat) (n : List Nat) (l : List Ad) : List Nat := putQ id (33152 + cd) l.length n ++ l.flatMap (adr tl)
theorem getD_pre (pre xs : List Nat) (i : Nat) : (pre ++ xs).getD (pre.length + i) 0 = xs.getD i 0 := by
  simp [List.getD, List.getElem?_append_right]
theorem getD_pre0 (pre xs : List Nat) : (pre ++ xs).getD pre.length 0 = xs.getD 0 0 := getD_pre pre xs 0
theorem txs_on (t : List Nat) (ht : t ≠ []) : ∀ (ps : List (List Nat)), ps ≠ [] → ps.foldl tx t = t ++ 46 :: jn ps
  | [], h => absurd rfl h
  | [p], _ => by simp [tx, ht, jn]
  | p :: q :: r, _ => by
    rw [List.foldl_cons, txs_on (tx t p) (by unfold tx; rw [if_neg ht]; simp) (q :: r) (by simp)]
    unfold tx
    rw [if_neg ht]
    simp [jn]
theorem txs_jn (ps : List (List Nat)) (h : ∀ p ∈ ps, p ≠ []) : ps.foldl tx [] = jn ps := by
  cases ps with
  | nil => rfl
  | cons p r =>
    rw [List.foldl_cons, show tx [] p = p from by simp [tx]]
    cases r with
    | nil => rfl
    | cons q r => rw [txs_on p (h p (by simp)) _ (by simp)]; rfl
theorem txs_le : ∀ (ps : List (List Nat)) (t : List Nat), t.length ≤ (ps.foldl tx t).length
  | [], t => Nat.le_refl _
  | p :: r, t => by
    refine Nat.le_trans ?_ (txs_le r (tx t p))
    unfold tx; split
    · rename_i h; rw [h]; simp
    · simp
/-- Labels that stand one behind the other are read. -/
theorem nm_lbe (b post : List Nat) (a q bh : Nat) : ∀ (ps : List (List Nat)) (pre t : List Nat), (∀ p ∈ ps, isLab p) → (ps.foldl tx t).length ≤ 253 → b = pre ++ (lbe ps ++ 0 :: post) → (name (ps.foldl tx t)).2 = .ok →
    nm b a q pre.length t bh = ((name (ps.foldl tx t)).1, if q = a then pre.length + (lbe ps).length + 1 else bh, .ok)
  | [], pre, t, _, hl, hb, ho => by
    have e : b = pre ++ 0 :: post := by simpa [lbe] using hb
    have ho' : (name t).2 = .ok := ho
    rw [nm_end (by rw [e]; simp) (by rw [e, getD_pre0]; rfl), if_pos ho']
    simp [lbe]
  | p :: ps, pre, t, hp, hl, hb, ho => by
    have h1 := hp p (by simp)
    have e : b = pre ++ (p.length :: (p ++ (lbe ps ++ 0 :: post))) := by rw [hb]; simp [lbe]
    have g0 : b.getD pre.length 0 = p.length := by rw [e, getD_pre0]; rfl
    have hln : b.length = pre.length + (1 + p.length + (lbe ps).length + 1 + post.length) := by rw [e]; simp; omega
    have hlb : lbl b pre.length = p := by
      unfold lbl
      rw [g0, e, show pre ++ p.length :: (p ++ (lbe ps ++ 0 :: post)) = (pre ++ [p.length]) ++ (p ++ (lbe ps ++ 0 :: post)) by simp, show pre.length + 1 = (pre ++ [p.length]).length by simp, List.drop_left, List.take_left]
    have h1a := h1.1
    have h1b := h1.2.1
    rw [nm_lab (by rw [g0]; omega) (by rw [g0]; omega) (by rw [g0]; omega) (by rw [hlb]; exact (labB_iff p).2 h1) (by rw [hlb]; exact Nat.le_trans (txs_le ps _) hl)]
    rw [hlb, g0, show pre.length + 1 + p.length = (pre ++ p.length :: p).length by simp; omega]
    rw [nm_lbe b post a q bh ps (pre ++ p.length :: p) (tx t p) (fun x hx => hp x (by simp [hx])) hl (by rw [e]; simp) ho]
    refine Prod.ext rfl (Prod.ext ?_ rfl)
    show (if q = a then _ else _) = (if q = a then _ else _)
    have : (lbe (p :: ps)).length = 1 + p.length + (lbe ps).length := by simp [lbe]; omega
    rw [this]
    split
    · simp; omega
    · rfl
/-- A name that was written is read, wherever one is led from. -/
theorem nm_put {n : List Nat} (h : name n = (n, .ok)) (pre post : List Nat) (a q bh : Nat) : nm (pre ++ (lbe (pcs n) ++ 0 :: post)) a q pre.length [] bh = (n, if q = a then pre.length + n.length + 2 else bh, .ok) := by
  obtain ⟨h1, h2, h3, h4⟩ := name_ok h
  have hl := (bLabsNone _ _).1 h2
  have hj : (pcs n).foldl tx [] = n := by
    rw [txs_jn _ (fun p hp e => by have := (hl p hp).1; rw [e] at this; simp at this), jn_pcs]
  rw [nm_lbe _ post a q bh (pcs n) pre [] hl (by rw [hj]; exact h1) rfl (by rw [hj, h]), hj, h, lbe_len _ (pcs_ne n), jn_pcs]
  rfl
theorem nam_put {n : List Nat} (h : name n = (n, .ok)) (pre post : List Nat) : nam (pre ++ (lbe (pcs n) ++ 0 :: post)) pre.length = (n, pre.length + n.length + 2, .ok) := by
  unfold nam; rw [nm_put h, if_pos rfl]
theorem num2_back (n : Nat) (h : n < 65536) : n / 256 % 256 * 256 + n % 256 = n := by omega
theorem nu_pre (pre post : List Nat) (x : Nat) : nu (pre ++ (num2 x ++ post)) (pre.length, .ok) = x % 65536 := by
  rw [nu_in (by simp [num2]), getD_pre0, getD_pre]
  simp [num2]
  omega
/-- The head of what was written. -/
theorem head_put (id fl an : Nat) (r : List Nat) (k : Nat) (hid : id < 65536) (hfl : fl < 65536) (han : an < 65536) (hk : fl &&& 64000 = k) (hl : (nums2 [id, fl, 1, an, 0, 0] ++ r).length ≤ 512) :
    s5 (nums2 [id, fl, 1, an, 0, 0] ++ r) k = (12, .ok) ∧ hId (nums2 [id, fl, 1, an, 0, 0] ++ r) = id ∧ hFl (nums2 [id, fl, 1, an, 0, 0] ++ r) = fl ∧ hAn (nums2 [id, fl, 1, an, 0, 0] ++ r) k = an := by
  obtain ⟨b, hb⟩ : ∃ b, b = nums2 [id, fl, 1, an, 0, 0] ++ r := ⟨_, rfl⟩
  rw [← hb] at hl ⊢
  have hb' : b = [id / 256 % 256, id % 256, fl / 256 % 256, fl % 256, 0, 1, an / 256 % 256, an % 256, 0, 0, 0, 0] ++ r := by rw [hb]; rfl
  have hln : 12 ≤ b.length := by rw [hb']; simp
  have o : opn b = (0, .ok) := by unfold opn; rw [if_neg (by omega)]
  have e1 : s1 b = (2, .ok) := by unfold s1; rw [o, tk_in (by omega)]
  have n0 : nu b (0, .ok) = id := by rw [nu_in (by omega), hb']; simp; omega
  have n2 : nu b (2, .ok) = fl := by rw [nu_in (by omega), hb']; simp; omega
  have n4 : nu b (4, .ok) = 1 := by rw [nu_in (by omega), hb']; simp
  have n6 : nu b (6, .ok) = an := by rw [nu_in (by omega), hb']; simp; omega
  have e2 : s2 b k = (4, .ok) := by unfold s2; rw [e1, tk_in (by omega), n2, chk1, if_pos (by simp [hk])]
  have e3 : s3 b k = (6, .ok) := by unfold s3; rw [e2, tk_in (by omega), n4, chk1, if_pos (by simp)]
  have e4 : s4 b k = (8, .ok) := by unfold s4; rw [e3, tk_in (by omega)]
  have e5 : s5 b k = (12, .ok) := by unfold s5; rw [e4]; exact tk_in (by show 8 + (12 - 8) ≤ _; omega)
  exact ⟨e5, by unfold hId; rw [o, n0], by unfold hFl; rw [e1, n2], by unfold hAn; rw [e3, n6]⟩
/-- The question of what was written. -/
theorem quest_put (id fl an : Nat) {n : List Nat} (h : name n = (n, .ok)) (r : List Nat) :
    mn (putQ id fl an n ++ r) (12, .ok) = (n, 14 + n.length, .ok) ∧ q2 (putQ id fl an n ++ r) (12, .ok) = (18 + n.length, .ok) := by
  have e : putQ id fl an n ++ r = nums2 [id, fl, 1, an, 0, 0] ++ (lbe (pcs n) ++ 0 :: (num2 1 ++ (num2 1 ++ r))) := by simp [putQ, nums2]
  have hm : mn (putQ id fl an n ++ r) (12, .ok) = (n, 14 + n.length, .ok) := by
    unfold mn
    rw [if_pos rfl, e]
    have := nam_put h (nums2 [id, fl, 1, an, 0, 0]) (num2 1 ++ (num2 1 ++ r))
    rw [show (nums2 [id, fl, 1, an, 0, 0]).length = 12 from rfl] at this
    rw [this]
    refine Prod.ext rfl (Prod.ext ?_ rfl)
    show 12 + n.length + 2 = 14 + n.length; omega
  refine ⟨hm, ?_⟩
  have hl := lbe_len _ (pcs_ne n)
  rw [jn_pcs] at hl
  have e1 : putQ id fl an n ++ r = (nums2 [id, fl, 1, an, 0, 0] ++ lbe (pcs n) ++ [0]) ++ (num2 1 ++ (num2 1 ++ r)) := by rw [e]; simp
  have e2 : putQ id fl an n ++ r = (nums2 [id, fl, 1, an, 0, 0] ++ lbe (pcs n) ++ [0] ++ num2 1) ++ (num2 1 ++ r) := by rw [e]; simp
  have l1 : (nums2 [id, fl, 1, an, 0, 0] ++ lbe (pcs n) ++ [0]).length = 14 + n.length := by rw [List.length_append, List.length_append, hl]; show 12 + (n.length + 1) + 1 = _; omega
  have l2 : (nums2 [id, fl, 1, an, 0, 0] ++ lbe (pcs n) ++ [0] ++ num2 1).length = 16 + n.length := by rw [List.length_append, l1]; show 14 + n.length + 2 = _; omega
  have hln : 18 + n.length ≤ (putQ id fl an n ++ r).length := by rw [e2, List.length_append, l2]; simp [num2]; omega
  have u1 : nu (putQ id fl an n ++ r) (14 + n.length, .ok) = 1 := by rw [e1, ← l1, nu_pre]
  have u2 : nu (putQ id fl an n ++ r) (16 + n.length, .ok) = 1 := by rw [e2, ← l2, nu_pre]
  have hq1 : q1 (putQ id fl an n ++ r) (12, .ok) = (16 + n.length, .ok) := by
    unfold q1
    rw [hm, u1, chk1, if_pos (by simp), tk_in (by omega)]
    refine Prod.ext ?_ rfl
    show 14 + n.length + 2 = _; omega
  unfold q2
  rw [hq1, hm, u2, chk1, if_pos (by simp), tk_in (by omega)]
  refine Prod.ext ?_ rfl
  show 16 + n.length + 2 = _; omega
theorem putQ_len (id fl an : Nat) (n : List Nat) : (putQ id fl an n).length = 18 + n.length := by
  have hl := lbe_len _ (pcs_ne n)
  rw [jn_pcs] at hl
  unfold putQ
  rw [List.length_append, List.length_append, List.length_append, hl]
  show 12 + (n.length + 1) + 1 + 4 = _; omega
theorem qus_put {id : Nat} {n : List Nat} (hid : id < 65536) (h : name n = (n, .ok)) : qus (putQ id 256 0 n) = ((id, n), .ok) := by
  obtain ⟨h1, _⟩ := name_ok h
  have hq := quest_put id 256 0 h []
  have hlen := putQ_len id 256 0 n
  have hh := head_put id 256 0 (lbe (pcs n) ++ [0] ++ nums2 [1, 1]) 0 hid (by omega) (by omega) (by decide) (by rw [show nums2 [id, 256, 1, 0, 0, 0] ++ (lbe (pcs n) ++ [0] ++ nums2 [1, 1]) = putQ id 256 0 n by simp [putQ]]; omega)
  rw [show nums2 [id, 256, 1, 0, 0, 0] ++ (lbe (pcs n) ++ [0] ++ nums2 [1, 1]) = putQ id 256 0 n by simp [putQ]] at hh
  rw [List.append_nil] at hq
  unfold qus
  rw [hh.1, hq.2, if_pos rfl, hq.1, hh.2.1]
/-- A record of an address, as it was written. -/
theorem rec_put {id fl an tl : Nat} {n : List Nat} (h : name n = (n, .ok)) (m : List Nat) (a : Ad) (r : List Nat) (htl : tl ≤ 1048576) {b : List Nat} (hb : b = putQ id fl an n ++ m ++ (adr tl a ++ r)) {p : Nat} (hp : p = (putQ id fl an n ++ m).length) :
    rc b (p, .ok) = ⟨n, 1, 1, tl, p + 12, 4⟩ ∧ rcS b (p, .ok) = (p + 16, .ok) ∧ adAt b (p + 12) = a := by
  have hq := putQ_len id fl an n
  have hp18 : 18 ≤ p := by rw [hp, List.length_append, hq]; omega
  have hln : p + 16 ≤ b.length := by rw [hb, List.length_append, ← hp, List.length_append]; simp [adr, nums2, num2]
  have gd : ∀ i, b.getD (p + i) 0 = (adr tl a ++ r).getD i 0 := fun i => by rw [hb, hp, getD_pre]
  have g0 : b.getD p 0 = 192 := gd 0
  have g1 : b.getD (p + 1) 0 = 12 := gd 1
  have hled : led b p = 12 := by unfold led; rw [g0, g1]
  have hm : mn b (p, .ok) = (n, p + 2, .ok) := by
    unfold mn
    rw [if_pos rfl]
    show ((nam b p).1, (nam b p).2) = _
    have e : b = nums2 [id, fl, 1, an, 0, 0] ++ (lbe (pcs n) ++ 0 :: (num2 1 ++ (num2 1 ++ (m ++ (adr tl a ++ r))))) := by rw [hb]; simp [putQ, nums2]
    have := nm_put h (nums2 [id, fl, 1, an, 0, 0]) (num2 1 ++ (num2 1 ++ (m ++ (adr tl a ++ r)))) p 12 (p + 2)
    rw [← e, show (nums2 [id, fl, 1, an, 0, 0]).length = 12 from rfl, if_neg (by omega)] at this
    unfold nam
    rw [nm_led (by rw [g0]; omega) (by omega) (by rw [hled]; omega), hled, if_pos rfl, this]
  have hr : ∀ k, k ≤ 5 → rs b (p, .ok) k = (p + 2 + 2 * k, .ok) := by
    intro k hk
    induction k with
    | zero => show (mn b (p, .ok)).2 = _; rw [hm]
    | succ k ih => show tk b 2 (rs b (p, .ok) k) = _; rw [ih (by omega), tk_in (by omega)]; refine Prod.ext ?_ rfl; show p + 2 + 2 * k + 2 = p + 2 + 2 * (k + 1); omega
  have nu' : ∀ i, i + 2 ≤ 16 → nu b (p + i, .ok) = (adr tl a ++ r).getD i 0 * 256 + (adr tl a ++ r).getD (i + 1) 0 := fun i hi => by
    rw [nu_in (by omega), gd, show p + i + 1 = p + (i + 1) by omega, gd]
  have r0 : nu b (rs b (p, .ok) 0) = 1 := by rw [hr 0 (by omega)]; refine (nu' 2 (by omega)).trans ?_; simp [adr, nums2, num2]
  have r1 : nu b (rs b (p, .ok) 1) = 1 := by rw [hr 1 (by omega)]; refine (nu' 4 (by omega)).trans ?_; simp [adr, nums2, num2]
  have r2 : nu b (rs b (p, .ok) 2) = tl / 65536 := by rw [hr 2 (by omega)]; refine (nu' 6 (by omega)).trans ?_; show tl / 65536 / 256 % 256 * 256 + tl / 65536 % 256 = _; omega
  have r3 : nu b (rs b (p, .ok) 3) = tl % 65536 := by rw [hr 3 (by omega)]; refine (nu' 8 (by omega)).trans ?_; show tl / 256 % 256 * 256 + tl % 256 = _; omega
  have r4 : nu b (rs b (p, .ok) 4) = 4 := by rw [hr 4 (by omega)]; refine (nu' 10 (by omega)).trans ?_; simp [adr, nums2, num2]
  have hs : secs (tl / 65536) (tl % 65536) = tl := by unfold secs; rw [if_neg (by omega)]; omega
  refine ⟨?_, ?_, ?_⟩
  · unfold rc
    rw [hm, r0, r1, r2, r3, r4, hs, hr 5 (by omega)]
  · unfold rcS
    rw [r4, hr 5 (by omega), tk_in (by omega)]
  · unfold adAt
    rw [show p + 12 + 1 = p + 13 by omega, show p + 12 + 2 = p + 14 by omega, show p + 12 + 3 = p + 15 by omega, gd 12, gd 13, gd 14, gd 15]
    rfl
theorem adrs_len (tl : Nat) : ∀ l : List Ad, (l.flatMap (adr tl)).length = 16 * l.length
  | [] => rfl
  | a :: l => by
    have := adrs_len tl l
    rw [List.flatMap_cons, List.length_append, this]
    show 16 + _ = 16 * (l.length + 1)
    omega
theorem rloop_put {id fl an tl : Nat} {n : List Nat} (h : name n = (n, .ok)) (htl : tl ≤ 1048576) {b : List Nat} : ∀ (todo done : List Ad) (t : Nat), tl ≤ t → done.length + todo.length ≤ 16 → b = putQ id fl an n ++ (done ++ todo).flatMap (adr tl) →
    rloop b todo.length ((18 + n.length + 16 * done.length, .ok), n, done, t) = ((18 + n.length + 16 * (done.length + todo.length), .ok), n, done ++ todo, if todo = [] then t else tl)
  | [], done, t, _, _, _ => by simp [rloop]
  | a :: todo, done, t, ht, hl, hb => by
    have hb1 : b = putQ id fl an n ++ done.flatMap (adr tl) ++ (adr tl a ++ todo.flatMap (adr tl)) := by rw [hb]; simp
    obtain ⟨x1, x2, x3⟩ := rec_put h (done.flatMap (adr tl)) a (todo.flatMap (adr tl)) htl hb1 (p := 18 + n.length + 16 * done.length) (by rw [List.length_append, putQ_len, adrs_len])
    have hst : rstep b ((18 + n.length + 16 * done.length, .ok), n, done, t) = ((18 + n.length + 16 * (done ++ [a]).length, .ok), n, done ++ [a], tl) := by
      rw [rstep_def_addr (by rw [x2]) (by rw [x1]) (by rw [x1]) (by rw [x1]) (by rw [x1]), x1, x2]
      simp only [x3]
      refine Prod.ext (Prod.ext ?_ rfl) (Prod.ext rfl (Prod.ext ?_ ?_))
      · show _ = 18 + n.length + 16 * (done ++ [a]).length; simp; omega
      · show more done a = _
        unfold more
        rw [if_neg (by simp at hl; omega)]
      · show min t tl = tl; omega
    show rloop b (todo.length + 1) _ = _
    rw [rloop_ok rfl, hst, rloop_put (id := id) (fl := fl) (an := an) h htl todo (done ++ [a]) tl (Nat.le_refl _) (by simp at hl ⊢; omega) (by rw [hb]; simp)]
    refine Prod.ext (Prod.ext ?_ rfl) (Prod.ext rfl (Prod.ext ?_ ?_))
    · show 18 + n.length + 16 * ((done ++ [a]).length + todo.length) = 18 + n.length + 16 * (done.length + (todo.length + 1)); simp; omega
    · show done ++ [a] ++ todo = done ++ a :: todo; simp
    · show (if todo = [] then tl else tl) = (if a :: todo = [] then t else tl); simp
theorem fl_and (cd : Nat) (h : cd < 16) : (33152 + cd) &&& 64000 = 32768 ∧ (33152 + cd) &&& 15 = cd := by
  have : ∀ c : Fin 16, (33152 + c.1) &&& 64000 = 32768 ∧ (33152 + c.1) &&& 15 = c.1 := by decide
  exact this ⟨cd, h⟩
/-- An answer that was written is read as it was. -/
theorem ans_put {id cd tl : Nat} {n : List Nat} {l : List Ad} (hid : id < 65536) (h : name n = (n, .ok)) (hcd : cd < 16) (htl : tl ≤ 1048576) (hl : l.length ≤ 16) (hc : cd ≠ 0 → l = []) (ht : l = [] → tl = 0) (hlen : (putA id cd tl n l).length ≤ 512) :
    ans (putA id cd tl n l) = (⟨id, n, cd, l, tl⟩, .ok) := by
  obtain ⟨b, hb⟩ : ∃ b, b = putA id cd tl n l := ⟨_, rfl⟩
  have hq := quest_put id (33152 + cd) l.length h (l.flatMap (adr tl))
  have e : putA id cd tl n l = nums2 [id, 33152 + cd, 1, l.length, 0, 0] ++ (lbe (pcs n) ++ [0] ++ nums2 [1, 1] ++ l.flatMap (adr tl)) := by simp [putA, putQ]
  obtain ⟨a1, a2⟩ := fl_and cd hcd
  have hh := head_put id (33152 + cd) l.length (lbe (pcs n) ++ [0] ++ nums2 [1, 1] ++ l.flatMap (adr tl)) 32768 hid (by omega) (by omega) a1 (by rw [← e]; exact hlen)
  rw [← e, ← hb] at hh
  rw [show putQ id (33152 + cd) l.length n ++ l.flatMap (adr tl) = b from hb.symm] at hq
  rw [← hb]
  obtain ⟨k1, k2, k3, k4⟩ := hh
  have hS : aS b = (18 + n.length, .ok) := by unfold aS; rw [k1, hq.2]
  have hN : aN b = n := by unfold aN; rw [k1, hq.1]
  have hL : aL b = if cd = 0 then ((18 + n.length + 16 * l.length, .ok), n, l, if l = [] then 1048576 else tl) else ((18 + n.length, .ok), n, [], 0) := by
    unfold aL
    rw [hS, hN, k3, k4, a2]
    split
    · have := rloop_put (id := id) (fl := 33152 + cd) (an := l.length) (tl := tl) h htl (b := b) l [] 1048576 htl (by simpa using hl) (by rw [hb]; rfl)
      simpa using this
    · rfl
  unfold ans
  rw [hL]
  by_cases c0 : cd = 0
  · rw [if_pos c0, if_pos rfl, k2, hN, k3, a2]
    by_cases hl0 : l = []
    · simp [hl0, ht hl0]
    · simp [hl0]
  · rw [if_neg c0, if_pos rfl, k2, hN, k3, a2]
    have := hc c0
    simp [this, ht this]
end Go.Proofs.YtabkelhipmijfaaGreatDoor

set_option linter.unusedSimpArgs false
set_option linter.unusedVariables false
namespace Go.Proofs.YtabkelhipmijfaaGreatDoor
open Go.RowKit
set_option maxRecDepth 100000 in
set_option maxHeartbeats 2000000 in
theorem putNumbers_at2 (v : Value) (l : List Nat) (B r : Nat) (zs : List Nat) (w : World) (h : Own w B 5 v (nums .u8 l)) (hB : B ≤ w.heap.size) (hr : Row w r 3 (nums .i64 zs)) (hl : l.length ≤ 10000) (hz : zs.length ≤ 100) (hzl : ∀ x ∈ zs, x < 4294967296) (hlb : ∀ x ∈ l, x < 256) :
    Calls Tryz.prog 96 #[v, .slice (some ⟨r, 0, none⟩) zs.length zs.length] w fun e w' => ∃ v', e = .returned v' ∧ Own w' B 5 v' (nums .u8 (l ++ nums2 zs)) ∧ Below B w w' ∧ (∀ r2 ty C, ty ≠ 5 → Row w r2 ty C → Row w' r2 ty C) := by
  have H := hide h
  have HR := hide hr
  have HZ := hide hzl
  have HLB := hide hlb
  clear h hr hzl hlb
  go_enter Tryz.func96, Tryz.ntmps96
  go_wp2_with fail
  go_loopw [0, 9] (fun x i wr => ∃ k : Nat, k ≤ zs.length ∧ i = .int .i64 k ∧ Hid (Own wr B 5 x (nums .u8 (l ++ nums2 (zs.take k))) ∧ Below B w wr ∧ Row wr r 3 (nums .i64 zs) ∧ B ≤ wr.heap.size ∧ (∀ r2 ty C, ty ≠ 5 → Row w r2 ty C → Row wr r2 ty C))) (fun _ i _ => zs.length - (intOf i).toNat)
  case atStart => exact ⟨0, by omega, rfl, by simpa [nums2] using H.out, Below.refl _ _, HR.out, hB, fun _ _ _ _ h => h⟩
  case round =>
    obtain ⟨k, hk, rfl, HI⟩ := hrel
    by_cases hkn : k < zs.length
    · have hd : decide ((k : Int) < (zs.length : Int)) = true := decide_eq_true (by omega)
      have hd' : decide (k < zs.length) = true := decide_eq_true (by omega)
      obtain ⟨ow, bl, rw_, hBr, al⟩ := HI.out
      have hMl : (l ++ nums2 (zs.take k)).length ≤ 11000 := by rw [List.length_append, nums2_len, List.length_take]; omega
      have hMb : ∀ x ∈ l ++ nums2 (zs.take k), x < 256 := fun x hx => by
        rcases List.mem_append.1 hx with h | h
        · exact HLB.out x h
        · obtain ⟨y, _, hy⟩ := List.mem_flatMap.1 h; exact num2_lt y x hy
      have ck : wr.cell? ⟨r, k, none⟩ = some (.int .i64 (zs.getD k 0 : Nat)) := rw_.num0 hkn
      have hrl := rw_.lt
      have hz' := HZ.out (zs.getD k 0) (getD_mem hkn)
      have hnt := nums2_take zs k hkn
      obtain ⟨z, hz0⟩ : ∃ z, z = zs.getD k 0 := ⟨_, rfl⟩
      rw [← hz0] at ck hz' hnt
      obtain ⟨M, hM⟩ : ∃ M, M = l ++ nums2 (zs.take k) := ⟨_, rfl⟩
      rw [← hM] at ow hMl hMb
      have HM : Hid (l ++ nums2 (zs.take (k + 1)) = M ++ num2 z) := by show _ = _; rw [hnt, ← List.append_assoc, ← hM]
      obtain ⟨xa, xc, rfl, xs, xb⟩ := own_src ow hMb
      have hcell : (nums .u8 (num2 z)).toArray = #[.int .u8 ((z : Int) / 256 % 256), .int .u8 ((z : Int) % 256)] := by simp [nums, num2]
      obtain ⟨v4, w4, ap4, ow4, bl4, bu4⟩ := run_appN ow (num2 z) (num2_lt z) (by simp [num2]; omega) hBr
      rw [hcell] at ap4
      have AP4 : Hid ((Builtin.append_ #[30, 30] 30 #[.slice xa M.length xc, .slice (some ⟨wr.heap.size, 0, none⟩) 2 2]).run Tryz.prog (wr.alloc (.cells #[.int .u8 ((z : Int) / 256 % 256), .int .u8 ((z : Int) % 256)] 5)) = .ok v4 w4) := ap4
      have HI2 : Hid (Own w4 B 5 v4 (nums .u8 (l ++ nums2 (zs.take (k + 1)))) ∧ Below B w w4 ∧ Row w4 r 3 (nums .i64 zs) ∧ B ≤ w4.heap.size ∧ (∀ r2 ty C, ty ≠ 5 → Row w r2 ty C → Row w4 r2 ty C)) := ⟨by rw [HM.out]; exact ow4, bl.trans bl4, ow.but (u := v4) rw_ (by decide) bu4, Nat.le_trans hBr bl4.size, fun r2 ty C ht hr2 => ow.but (u := v4) (al r2 ty C ht hr2) ht bu4⟩
      clear al ow bl rw_ xs xb ap4 ow4 bl4 bu4 hcell hM hz0 hMb hnt hMl HI HM
      go_wp2_with (first
        | (refine wpList_app_run _ rfl _ _ 30 30 rfl (.slice xa M.length xc) (.slice (some ⟨wr.heap.size, 0, none⟩) 2 2) rfl rfl AP4.out ?_))
      go_roundw
      case rel => exact ⟨k + 1, by omega, by go_num, HI2.out⟩
      case measure => simp [intOf]; omega
    · have hd : decide ((k : Int) < (zs.length : Int)) = false := decide_eq_false (by omega)
      have hd' : decide (k < zs.length) = false := decide_eq_false (by omega)
      obtain ⟨ow, bl, rw_, hBr, al⟩ := HI.out
      rw [List.take_of_length_le (by omega)] at ow
      have OW := hide ow
      have BL := hide bl
      have AL := hide al
      clear al ow bl rw_ HI
      go_wp2_with fail
      go_ret
      exact ⟨_, rfl, OW.out, BL.out, AL.out⟩
set_option maxRecDepth 100000 in
set_option maxHeartbeats 4000000 in
theorem putAddr_at (v : Value) (l : List Nat) (B : Nat) (d : Ad) (tl : Nat) (w : World) (h : Own w B 5 v (nums .u8 l)) (hB : B ≤ w.heap.size) (hl : l.length ≤ 1000) (hlb : ∀ x ∈ l, x < 256) (hd : d.ok) (htl : tl ≤ 1048576) :
    Calls Tryz.prog 76 #[v, .agg #[.int .u8 (d.1 : Nat), .int .u8 (d.2.1 : Nat), .int .u8 (d.2.2.1 : Nat), .int .u8 (d.2.2.2 : Nat)], .int .i64 (tl : Nat)] w fun e w' => ∃ v', e = .returned v' ∧ Own w' B 5 v' (nums .u8 (l ++ adr tl d)) ∧ Below B w w' := by
  obtain ⟨d0, d1, d2, d3⟩ := d
  obtain ⟨W1, hW1⟩ : ∃ W1, W1 = (w.alloc (.cells #[.int .u8 (d0 : Nat), .int .u8 (d1 : Nat), .int .u8 (d2 : Nat), .int .u8 (d3 : Nat)] 39)).alloc (.cells #[.int .i64 49164, .int .i64 1, .int .i64 1, .int .i64 ((tl : Int) / 65536), .int .i64 (tl : Nat), .int .i64 4] 3) := ⟨_, rfl⟩
  have b1 : Below w.heap.size w W1 := by rw [hW1]; exact ((Below.refl _ _).alloc (Nat.le_refl _) _).alloc (by simp) _
  have r1 : Row W1 (w.heap.size + 1) 3 (nums .i64 [49164, 1, 1, tl / 65536, tl, 4]) := by
    rw [hW1]
    exact alloc_new2 w _ _
  have r0 : Row W1 w.heap.size 39 [.int .u8 (d0 : Nat), .int .u8 (d1 : Nat), .int .u8 (d2 : Nat), .int .u8 (d3 : Nat)] := by
    rw [hW1]
    exact (Row.new w _ 39).alloc _
  have hW1s : W1.heap.size = w.heap.size + 2 := by rw [hW1]; simp
  have HN := hide (putNumbers_at2 v l B (w.heap.size + 1) [49164, 1, 1, tl / 65536, tl, 4] W1 (h.below b1) (by omega) r1 (by omega) (by simp) (by simp; omega) hlb)
  have HW1 := hide hW1.symm
  have B1 := hide (b1.mono hB)
  have R0 := hide r0
  have HLB := hide hlb
  have HD := hide hd
  obtain ⟨xa, xc, rfl, xs, xb⟩ := own_src h hlb
  clear hW1 b1 r1 r0 hlb hd xs xb h
  go_enter Tryz.func76, Tryz.ntmps76
  go_wp2_with fail
  rw [HW1.out]
  refine HN.out.mono ?_
  rintro e w2 ⟨v2, rfl, o2, b2, k2⟩
  have r2 := k2 _ _ _ (by decide) R0.out
  have c0 : w2.cell? ⟨w.heap.size, 0, none⟩ = some (.int .u8 (d0 : Nat)) := r2.cell 0
  have c1 : w2.cell? ⟨w.heap.size, 1, none⟩ = some (.int .u8 (d1 : Nat)) := r2.cell 1
  have c2 : w2.cell? ⟨w.heap.size, 2, none⟩ = some (.int .u8 (d2 : Nat)) := r2.cell 2
  have c3 : w2.cell? ⟨w.heap.size, 3, none⟩ = some (.int .u8 (d3 : Nat)) := r2.cell 3
  have hl2 : (l ++ nums2 [49164, 1, 1, tl / 65536, tl, 4]).length ≤ 1012 := by rw [List.length_append, nums2_len]; simp; omega
  have hb2 : ∀ x ∈ l ++ nums2 [49164, 1, 1, tl / 65536, tl, 4], x < 256 := fun x hx => by
    rcases List.mem_append.1 hx with h | h
    · exact HLB.out x h
    · exact nums2_lt _ x h
  obtain ⟨ya, yc, rfl, ys, yb⟩ := own_src o2 hb2
  obtain ⟨v3, w3, ap3, o3, b3, u3⟩ := run_appN o2 [d0, d1, d2, d3] (by have := HD.out; unfold Ad.ok at this; simp at this ⊢; omega) (by simp at hl2 ⊢; omega) (by have := b2.size; omega)
  have HE : Hid (l ++ nums2 [49164, 1, 1, tl / 65536, tl, 4] ++ [d0, d1, d2, d3] = l ++ adr tl (d0, d1, d2, d3)) := by show _ = _; simp [adr]
  obtain ⟨L2, hL2⟩ : ∃ L2, L2 = (l ++ nums2 [49164, 1, 1, tl / 65536, tl, 4]).length := ⟨_, rfl⟩
  rw [← hL2] at ap3 ⊢
  have AP3 : Hid ((Builtin.append_ #[30, 30] 30 #[.slice ya L2 yc, .slice (some ⟨w2.heap.size, 0, none⟩) 4 4]).run Tryz.prog (w2.alloc (.cells #[.int .u8 (d0 : Nat), .int .u8 (d1 : Nat), .int .u8 (d2 : Nat), .int .u8 (d3 : Nat)] 5)) = .ok v3 w3) := ap3
  have O3 : Hid (Own w3 B 5 v3 (nums .u8 (l ++ adr tl (d0, d1, d2, d3)))) := by rw [HE.out] at o3; exact o3
  have B3 : Hid (Below B w w3) := (B1.out.trans b2).trans b3
  have hlt := r2.lt
  clear ys yb o2 b2 k2 r2 hl2 hb2 hL2 ap3 o3 b3 u3 HN HE
  go_wp2_with (first
    | (refine wpList_app_run _ rfl _ _ 30 30 rfl (.slice ya L2 yc) (.slice (some ⟨w2.heap.size, 0, none⟩) 4 4) rfl rfl AP3.out ?_))
  go_ret
  exact ⟨_, rfl, O3.out, B3.out⟩
end Go.Proofs.YtabkelhipmijfaaGreatDoor

set_option linter.unusedSimpArgs false
set_option linter.unusedVariables false
namespace Go.Proofs.YtabkelhipmijfaaGreatDoor
open Go.RowKit
/-- What may be written as an answer. -/
def isAn (id : Int) (n : List Nat) (cd : Int) (k : Nat) (tl : Int) : Bool :=
  qry id n && decide (0 ≤ cd) && decide (cd ≤ 15) && decide (0 ≤ tl) && decide (tl ≤ 1048576) && decide (k ≤ 16) && (decide (cd = 0) || decide (k = 0)) && (decide (tl = 0) || decide (k ≠ 0))
set_option maxRecDepth 100000 in
set_option maxHeartbeats 4000000 in
theorem isAnswer_at (id : Int) (t : ByteArray) (cd : Int) (a : Option Addr) (n c : Nat) (tl : Int) (w : World) (ht : t.size ≤ maxLen) (hV : Vars w) (hn : n ≤ 140737488351232) :
    Calls Tryz.prog 74 #[.agg #[.int .i64 id, .string t, .int .i64 cd, .slice a n c, .int .i64 tl]] w fun e w' => e = .returned (.bool (isAn id (byt t) cd n tl)) ∧ Below w.heap.size w w' := by
  have b1 : Below w.heap.size w (w.alloc (.cells #[.int .i64 id, .string t, .int .i64 cd, .slice a n c, .int .i64 tl] 65)) := (Below.refl _ _).alloc (Nat.le_refl _) _
  have HC := hide (isQuery_at id t (w.alloc (.cells #[.int .i64 id, .string t, .int .i64 cd, .slice a n c, .int .i64 tl] 65)) ht (hV.below b1))
  have T1 := hide (Row.new w #[.int .i64 id, .string t, .int .i64 cd, .slice a n c, .int .i64 tl] 65)
  have B1 := hide b1
  obtain ⟨R, hR⟩ : ∃ R, R = isAn id (byt t) cd n tl := ⟨_, rfl⟩
  rw [← hR]
  have HR := hide hR
  clear b1 hV hR
  obtain ⟨q, hq⟩ : ∃ q, q = qry id (byt t) := ⟨_, rfl⟩
  rw [← hq] at HC
  have HQ := hide hq
  clear hq
  cases q with
  | false =>
    have hRf : R = false := by rw [HR.out, isAn, ← HQ.out]; simp
    subst hRf
    go_enter Tryz.func74, Tryz.ntmps74
    go_wp2_with fail
    refine HC.out.mono ?_
    rintro e w1 ⟨rfl, b2⟩
    have B2 := hide (B1.out.trans (b2.mono (by simp)))
    clear b2
    go_wp2_with fail
    go_ret
    exact ⟨rfl, B2.out⟩
  | true =>
    have hR1 : R = (decide (0 ≤ cd) && decide (cd ≤ 15) && decide (0 ≤ tl) && decide (tl ≤ 1048576) && decide (n ≤ 16) && (decide (cd = 0) || decide (n = 0)) && (decide (tl = 0) || decide (n ≠ 0))) := by rw [HR.out, isAn, ← HQ.out]; simp
    go_enter Tryz.func74, Tryz.ntmps74
    go_wp2_with fail
    refine HC.out.mono ?_
    rintro e w1 ⟨rfl, b2⟩
    have r1 := T1.out.below b2 (by simp)
    have c2 : w1.cell? ⟨w.heap.size, 2, none⟩ = some (.int .i64 cd) := r1.cell 2
    have c3 : w1.cell? ⟨w.heap.size, 3, none⟩ = some (.slice a n c) := r1.cell 3
    have c4 : w1.cell? ⟨w.heap.size, 4, none⟩ = some (.int .i64 tl) := r1.cell 4
    have B2 := hide (B1.out.trans (b2.mono (by simp)))
    have HR1 := hide hR1
    clear b2 r1 hR1
    by_cases h1 : cd < 0
    · have e1 : decide (cd < 0) = true := decide_eq_true h1
      obtain rfl : R = false := by rw [HR1.out]; simp; omega
      clear h1
      go_wp2_with fail
      go_ret
      exact ⟨rfl, B2.out⟩
    have e1 : decide (cd < 0) = false := decide_eq_false h1
    by_cases h2 : 15 < cd
    · have e2 : decide (15 < cd) = true := decide_eq_true h2
      obtain rfl : R = false := by rw [HR1.out]; simp; omega
      clear h1 h2
      go_wp2_with fail
      go_ret
      exact ⟨rfl, B2.out⟩
    have e2 : decide (15 < cd) = false := decide_eq_false h2
    by_cases h3 : tl < 0
    · have e3 : decide (tl < 0) = true := decide_eq_true h3
      obtain rfl : R = false := by rw [HR1.out]; simp; omega
      clear h1 h2 h3
      go_wp2_with fail
      go_ret
      exact ⟨rfl, B2.out⟩
    have e3 : decide (tl < 0) = false := decide_eq_false h3
    by_cases h4 : 1048576 < tl
    · have e4 : decide (1048576 < tl) = true := decide_eq_true h4
      obtain rfl : R = false := by rw [HR1.out]; simp; omega
      clear h1 h2 h3 h4
      go_wp2_with fail
      go_ret
      exact ⟨rfl, B2.out⟩
    have e4 : decide (1048576 < tl) = false := decide_eq_false h4
    by_cases h5 : 16 < n
    · have e5 : decide (16 < (n : Int)) = true := decide_eq_true (by omega)
      have e5' : decide (16 < n) = true := decide_eq_true h5
      obtain rfl : R = false := by rw [HR1.out]; simp; omega
      clear h1 h2 h3 h4 h5
      go_wp2_with fail
      go_ret
      exact ⟨rfl, B2.out⟩
    have e5 : decide (16 < (n : Int)) = false := decide_eq_false (by omega)
    have e5' : decide (16 < n) = false := decide_eq_false h5
    by_cases h6 : cd = 0
    · have e6 : (cd == 0) = true := by simp [h6]
      by_cases h7 : n = 0
      · have e7 : decide (0 < (n : Int)) = false := decide_eq_false (by omega)
        have e7' : decide (0 < n) = false := decide_eq_false (by omega)
        by_cases h8 : tl = 0
        · have e8 : (tl == 0) = true := by simp [h8]
          obtain rfl : R = true := by rw [HR1.out]; simp [h6, h7, h8] <;> omega
          clear h1 h2 h3 h4 h5 h7 h8
          go_wp2_with fail
          go_ret
          exact ⟨rfl, B2.out⟩
        · have e8 : (tl == 0) = false := by simp [h8]
          obtain rfl : R = false := by rw [HR1.out]; simp [h7, h8]
          clear h1 h2 h3 h4 h5 h7 h8
          go_wp2_with fail
          go_ret
          exact ⟨rfl, B2.out⟩
      · have e7 : decide (0 < (n : Int)) = true := decide_eq_true (by omega)
        have e7' : decide (0 < n) = true := decide_eq_true (by omega)
        by_cases h8 : tl = 0
        · have e8 : (tl == 0) = true := by simp [h8]
          obtain rfl : R = true := by rw [HR1.out]; simp [h6, h7, h8] <;> omega
          clear h1 h2 h3 h4 h5 h7 h8
          go_wp2_with fail
          go_ret
          exact ⟨rfl, B2.out⟩
        · have e8 : (tl == 0) = false := by simp [h8]
          obtain rfl : R = true := by rw [HR1.out]; simp [h6, h7, h8] <;> omega
          clear h1 h2 h3 h4 h5 h7 h8
          go_wp2_with fail
          go_ret
          exact ⟨rfl, B2.out⟩
    · have e6 : (cd == 0) = false := by simp [h6]
      by_cases h7 : n = 0
      · have e7 : decide (0 < (n : Int)) = false := decide_eq_false (by omega)
        have e7' : decide (0 < n) = false := decide_eq_false (by omega)
        by_cases h8 : tl = 0
        · have e8 : (tl == 0) = true := by simp [h8]
          obtain rfl : R = true := by rw [HR1.out]; simp [h6, h7, h8] <;> omega
          clear h1 h2 h3 h4 h5 h7 h8
          go_wp2_with fail
          go_ret
          exact ⟨rfl, B2.out⟩
        · have e8 : (tl == 0) = false := by simp [h8]
          obtain rfl : R = false := by rw [HR1.out]; simp [h7, h8]
          clear h1 h2 h3 h4 h5 h7 h8
          go_wp2_with fail
          go_ret
          exact ⟨rfl, B2.out⟩
      · have e7 : decide (0 < (n : Int)) = true := decide_eq_true (by omega)
        have e7' : decide (0 < n) = true := decide_eq_true (by omega)
        obtain rfl : R = false := by rw [HR1.out]; simp [h6, h7]
        clear h1 h2 h3 h4 h5 h7
        go_wp2_with fail
        go_ret
        exact ⟨rfl, B2.out⟩
end Go.Proofs.YtabkelhipmijfaaGreatDoor

set_option linter.unusedSimpArgs false
set_option linter.unusedVariables false
namespace Go.Proofs.YtabkelhipmijfaaGreatDoor
open Go.RowKit
theorem orr_i64 (x y : Nat) (hx : x < 65536) (hy : y < 65536) : bits .or .i64 (x : Int) (y : Int) = ((x ||| y : Nat) : Int) := by
  have h1 : (BitVec.ofInt 64 (x : Int)).toNat = x := by
    rw [BitVec.ofInt_natCast, BitVec.toNat_ofNat]; exact Nat.mod_eq_of_lt (by omega)
  have h2 : (BitVec.ofInt 64 (y : Int)).toNat = y := by
    rw [BitVec.ofInt_natCast, BitVec.toNat_ofNat]; exact Nat.mod_eq_of_lt (by omega)
  have hle : x ||| y < 2 ^ 16 := Nat.or_lt_two_pow hx hy
  show IntKind.i64.wrap ((BitVec.ofInt 64 (x : Int) ||| BitVec.ofInt 64 (y : Int)).toNat : Int) = _
  rw [BitVec.toNat_or, h1, h2, IntKind.wrap_i64]
  omega
theorem or_fl (cd : Nat) (h : cd < 16) : bits .or .i64 33152 (cd : Int) = ((33152 + cd : Nat) : Int) := by
  have e : 33152 ||| cd = 33152 + cd := by
    have : ∀ c : Fin 16, 33152 ||| c.1 = 33152 + c.1 := by decide
    exact this ⟨cd, h⟩
  have := orr_i64 33152 cd (by omega) (by omega)
  rw [e] at this
  exact this
/-- What PutAnswer tells. -/
def putAr (id : Int) (n : List Nat) (cd : Int) (l : List Ad) (tl : Int) : List Nat × Nat :=
  if isAn id n cd l.length tl = true then (if 512 < (putA id.toNat cd.toNat tl.toNat n l).length then ([], 3) else (putA id.toNat cd.toNat tl.toNat n l, 0)) else ([], 2)
theorem isAn_ok {id : Int} {n : List Nat} {cd : Int} {k : Nat} {tl : Int} (h : isAn id n cd k tl = true) : qry id n = true ∧ 0 ≤ cd ∧ cd ≤ 15 ∧ 0 ≤ tl ∧ tl ≤ 1048576 ∧ k ≤ 16 ∧ (cd = 0 ∨ k = 0) ∧ (tl = 0 ∨ k ≠ 0) := by
  unfold isAn at h
  simp only [Bool.and_eq_true, Bool.or_eq_true, decide_eq_true_eq] at h
  obtain ⟨⟨⟨⟨⟨⟨⟨h1, h2⟩, h3⟩, h4⟩, h5⟩, h6⟩, h7⟩, h8⟩ := h
  exact ⟨h1, h2, h3, h4, h5, h6, h7, h8⟩
theorem putA_len (id cd tl : Nat) (n : List Nat) (l : List Ad) : (putA id cd tl n l).length = 18 + n.length + 16 * l.length := by
  unfold putA; rw [List.length_append, putQ_len, adrs_len]
theorem adr_lt (tl : Nat) {a : Ad} (h : a.ok) : ∀ x ∈ adr tl a, x < 256 := by
  intro x hx
  rcases List.mem_append.1 hx with hx | hx
  · exact nums2_lt _ x hx
  · unfold Ad.ok at h
    simp at hx
    omega
theorem putA_lt (id cd tl : Nat) (n : List Nat) (l : List Ad) (h : n.length ≤ 253) (hb : ∀ x ∈ n, x < 256) (ha : okA l) : ∀ x ∈ putA id cd tl n l, x < 256 := by
  intro x hx
  rcases List.mem_append.1 hx with hx | hx
  · exact putQ_lt _ _ _ _ h hb x hx
  · obtain ⟨a, h1, h2⟩ := List.mem_flatMap.1 hx
    exact adr_lt tl (ha a h1) x h2
set_option maxRecDepth 100000 in
set_option maxHeartbeats 4000000 in
theorem putAnswer_at (id : Int) (t : ByteArray) (cd : Int) (a : Option Addr) (n c : Nat) (l : List Ad) (tl : Int) (w : World) (ht : t.size ≤ maxLen) (hV : Vars w) (hn : n ≤ 140737488351232) (h : SrcA w a n c l) :
    Calls Tryz.prog 47 #[.agg #[.int .i64 id, .string t, .int .i64 cd, .slice a n c, .int .i64 tl]] w (Wrote (putAr id (byt t) cd l tl) w) := by
  obtain ⟨W1, hW1⟩ : ∃ W1, W1 = w.alloc (.cells #[.int .i64 id, .string t, .int .i64 cd, .slice a n c, .int .i64 tl] 65) := ⟨_, rfl⟩
  have b1 : Below w.heap.size w W1 := by rw [hW1]; exact (Below.refl _ _).alloc (Nat.le_refl _) _
  have HC := hide (isAnswer_at id t cd a n c tl W1 ht (hV.below b1) hn)
  have T1 : Hid (Row W1 w.heap.size 65 [.int .i64 id, .string t, .int .i64 cd, .slice a n c, .int .i64 tl]) := by rw [hW1]; exact Row.new w _ 65
  have hs1 : W1.heap.size = w.heap.size + 1 := by rw [hW1]; simp
  have B1 := hide b1
  have S1 := hide (h.below b1)
  have V1 := hide (hV.below b1)
  obtain ⟨R, hR⟩ : ∃ R, R = putAr id (byt t) cd l tl := ⟨_, rfl⟩
  rw [← hR]
  have hln := h.hlen
  have HW1 := hide hW1.symm
  clear b1 hV h hW1
  by_cases hq : isAn id (byt t) cd n tl = true
  · rw [hq] at HC
    obtain ⟨q0, q1, q2, q3, q4, q5, q6, q7⟩ := isAn_ok hq
    obtain ⟨p1, p2, p3, p4⟩ := qry_ok q0
    rw [byt_length] at p4
    obtain ⟨I, rfl⟩ : ∃ I : Nat, id = (I : Int) := ⟨id.toNat, by omega⟩
    obtain ⟨C, rfl⟩ : ∃ C : Nat, cd = (C : Int) := ⟨cd.toNat, by omega⟩
    obtain ⟨L, rfl⟩ : ∃ L : Nat, tl = (L : Int) := ⟨tl.toNat, by omega⟩
    have HR : Hid (R = if 512 < 18 + t.size + 16 * n then ([], 3) else (putA I C L (byt t) l, 0)) := by
      show _ = _
      rw [hR, putAr, if_pos (by rw [hln]; exact hq)]
      simp only [Int.toNat_natCast, putA_len, byt_length, hln]
    have ho := or_fl C (by omega)
    obtain ⟨FL, hFL⟩ : ∃ FL, FL = 33152 + C := ⟨_, rfl⟩
    rw [← hFL] at ho
    have hfl : FL < 65536 := by omega
    have HFL := hide hFL
    clear hFL
    clear hR hq q0 q6 q7 p3
    go_enter Tryz.func47, Tryz.ntmps47
    go_wp2_with fail
    rw [HW1.out]
    refine HC.out.mono ?_
    rintro e w2 ⟨rfl, b2⟩
    have r2 := T1.out.below b2 (by omega)
    have c0 : w2.cell? ⟨w.heap.size, 0, none⟩ = some (.int .i64 (I : Nat)) := r2.cell 0
    have c1 : w2.cell? ⟨w.heap.size, 1, none⟩ = some (.string t) := r2.cell 1
    have c2 : w2.cell? ⟨w.heap.size, 2, none⟩ = some (.int .i64 (C : Nat)) := r2.cell 2
    have c3 : w2.cell? ⟨w.heap.size, 3, none⟩ = some (.slice a n c) := r2.cell 3
    have hg := r2.lt
    have B2 := hide (B1.out.trans (b2.mono (by omega)))
    have HP := hide (putQuestion_at I FL n t w2 (by omega) (by omega) (by omega) (by omega) (V1.out.below b2))
    have S2 := hide (S1.out.below b2)
    have T2 := hide r2
    clear b2 r2 HC
    go_wp2_with fail
    refine HP.out.mono ?_
    rintro e w3 ⟨v, rfl, o3, b3⟩
    have hbq := putQ_lt I FL n (byt t) (by rw [byt_length]; omega) (byt_lt t)
    have hlq : (putQ I FL n (byt t)).length = 18 + t.size := by rw [putQ_len, byt_length]
    obtain ⟨PQ, hPQ⟩ : ∃ PQ, PQ = putQ I FL n (byt t) := ⟨_, rfl⟩
    rw [← hPQ] at o3 hbq hlq
    have HPQ := hide hPQ
    obtain ⟨xa, xc, rfl, xs, xb⟩ := own_src o3 hbq
    have r3 := T2.out.below b3 (by omega)
    have c3' : w3.cell? ⟨w.heap.size, 3, none⟩ = some (.slice a n c) := r3.cell 3
    have hg3 := r3.lt
    have T3 := hide r3
    have B3 := hide b3
    have S3 := hide (S2.out.below b3)
    have O3 := hide o3
    obtain ⟨LQ, hLQ⟩ : ∃ LQ, LQ = PQ.length := ⟨_, rfl⟩
    have HBQ := hide hbq
    rw [← hLQ] at hlq ⊢
    have hlq1 : LQ ≤ 271 := by omega
    have HLQ := hide hlq
    have HLQ' := hide hLQ
    clear r3 o3 b3 xs xb c0 c1 c2 c3 hPQ hbq hLQ
    by_cases hbig : 512 < 18 + t.size + 16 * n
    · have d1 : decide (512 < (LQ : Int) + 16 * (n : Int)) = true := decide_eq_true (by omega)
      clear hlq
      have HW := hide (wrote_nil (B2.out.trans (B3.out.mono B2.out.size)) 3)
      rw [if_pos hbig] at HR
      rw [← HR.out] at HW
      go_wp2_with fail
      go_ret2
      exact HW.out
    · have d1 : decide (512 < (LQ : Int) + 16 * (n : Int)) = false := decide_eq_false (by omega)
      clear hlq
      rw [if_neg hbig] at HR
      have HI0 : Hid (Own w3 w2.heap.size 5 (.slice xa LQ xc) (nums .u8 (PQ ++ (l.take 0).flatMap (adr L))) ∧ Below w2.heap.size w2 w3) := ⟨by rw [HLQ'.out]; simpa using O3.out, B3.out⟩
      have hs2 := B2.out.size
      have HLN := hide hln
      clear hbig HP
      go_wp2_with fail
      clear hln c3' hg3 T3 S3 O3 B3
      go_loopw [4, 30] (fun x i wr => ∃ k : Nat, k ≤ n ∧ i = .int .i64 k ∧ Hid (Own wr w2.heap.size 5 x (nums .u8 (PQ ++ (l.take k).flatMap (adr L))) ∧ Below w2.heap.size w2 wr)) (fun _ i _ => n - (intOf i).toNat)
      case atStart => exact ⟨0, by omega, rfl, HI0.out⟩
      case round =>
        obtain ⟨k, hk, rfl, HJ⟩ := hrel
        obtain ⟨ow, bl⟩ := HJ.out
        have hMl : (PQ ++ (l.take k).flatMap (adr L)).length ≤ 600 := by rw [List.length_append, adrs_len, List.length_take, ← HLQ'.out]; omega
        have hMb : ∀ x ∈ PQ ++ (l.take k).flatMap (adr L), x < 256 := fun x hx => by
          rcases List.mem_append.1 hx with h | h
          · exact HBQ.out x h
          · obtain ⟨y, hy1, hy2⟩ := List.mem_flatMap.1 h
            exact adr_lt L (S2.out.byte y (List.mem_of_mem_take hy1)) x hy2
        by_cases hkn : k < n
        · have hd : decide ((k : Int) < (n : Int)) = true := decide_eq_true (by omega)
          have hd' : decide (k < n) = true := decide_eq_true (by omega)
          have s4 := S2.out.keep (w' := wr) (fun h0 b o e => bl.block b (S2.out.lt h0 e)) bl.size
          obtain ⟨yb, yo, rfl, e1, e2, e3, e4⟩ := s4.at_ hkn
          rw [Nat.mul_comm 4 k] at e1 e2 e3 e4
          have r4 := T2.out.below bl (by omega)
          have c4 : wr.cell? ⟨w.heap.size, 4, none⟩ = some (.int .i64 (L : Nat)) := r4.cell 4
          have hr4 := r4.lt
          have hdk : (l.getD k (0, 0, 0, 0)).ok := S2.out.byte _ (getD_mem (by rw [HLN.out]; exact hkn))
          have hnt : (l.take (k + 1)).flatMap (adr L) = (l.take k).flatMap (adr L) ++ adr L (l.getD k (0, 0, 0, 0)) := by
            have hk' : k < l.length := by rw [HLN.out]; exact hkn
            rw [List.take_succ_eq_append_getElem hk', List.flatMap_append]
            congr 1
            simp [List.getD, List.getElem?_eq_getElem hk']
          obtain ⟨M, hM⟩ : ∃ M, M = PQ ++ (l.take k).flatMap (adr L) := ⟨_, rfl⟩
          rw [← hM] at ow hMl hMb
          obtain ⟨d, hdd⟩ : ∃ d, d = l.getD k (0, 0, 0, 0) := ⟨_, rfl⟩
          rw [← hdd] at e1 e2 e3 e4 hdk hnt
          obtain ⟨W4, hW4⟩ : ∃ W, W = wr.alloc (.cells #[.int .u8 (d.1 : Nat), .int .u8 (d.2.1 : Nat), .int .u8 (d.2.2.1 : Nat), .int .u8 (d.2.2.2 : Nat)] 39) := ⟨_, rfl⟩
          have b4 : Below wr.heap.size wr W4 := by rw [hW4]; exact (Below.refl _ _).alloc (Nat.le_refl _) _
          have hs4 := b4.size
          have hs5 := bl.size
          have HA := hide (putAddr_at _ M w2.heap.size d L W4 (ow.below b4) (by omega) (by omega) hMb hdk (by omega))
          have HM : Hid (PQ ++ (l.take (k + 1)).flatMap (adr L) = M ++ adr L d) := by show _ = _; rw [hnt, ← List.append_assoc, ← hM]
          obtain ⟨za, zc, rfl, zs, zb⟩ := own_src ow hMb
          have B4 : Hid (Below w2.heap.size w2 W4) := bl.trans (b4.mono (by omega))
          have HW4 := hide hW4.symm
          clear ow bl s4 r4 hM hdd hnt hMl hMb hdk zs zb b4 hW4 HJ
          go_wp2_with fail
          rw [HW4.out]
          refine HA.out.mono ?_
          rintro e w5 ⟨v5, rfl, o5, b5⟩
          have HI2 : Hid (Own w5 w2.heap.size 5 v5 (nums .u8 (PQ ++ (l.take (k + 1)).flatMap (adr L))) ∧ Below w2.heap.size w2 w5) := ⟨by rw [HM.out]; exact o5, B4.out.trans b5⟩
          clear o5 b5 HA HM
          go_wp2_with fail
          go_roundw
          case rel => exact ⟨k + 1, by omega, by go_num, HI2.out⟩
          case measure => simp [intOf]; omega
        · have hd : decide ((k : Int) < (n : Int)) = false := decide_eq_false (by omega)
          have hd' : decide (k < n) = false := decide_eq_false (by omega)
          rw [List.take_of_length_le (by rw [HLN.out]; omega)] at ow
          rw [HPQ.out, HFL.out, ← HLN.out] at ow
          have HW := hide (wrote_own (l := putA I C L (byt t) l) ow (putA_lt I C L (byt t) l (by rw [byt_length]; omega) (byt_lt t) S2.out.byte) (B2.out.trans (bl.mono (by omega))) 0)
          rw [← HR.out] at HW
          clear ow bl hMl hMb HJ
          go_wp2_with fail
          go_ret2
          exact HW.out
  · have HR : Hid (R = ([], 2)) := by show _ = _; rw [hR, putAr, if_neg (by rw [hln]; exact hq)]
    have hqf : isAn id (byt t) cd n tl = false := by simpa using hq
    rw [hqf] at HC
    clear hR hq hqf
    go_enter Tryz.func47, Tryz.ntmps47
    go_wp2_with fail
    rw [HW1.out]
    refine HC.out.mono ?_
    rintro e w1 ⟨rfl, b2⟩
    have HW := hide (wrote_nil (B1.out.trans (b2.mono (by omega))) 2)
    rw [← HR.out] at HW
    clear b2
    go_wp2_with fail
    go_ret2
    exact HW.out
end Go.Proofs.YtabkelhipmijfaaGreatDoor
