/-
  What is written as a question or as an answer is read as it was, in numbers; no program.
-/
import Derived.Test.YtelfikbahcckaaaDoorPD
import Derived.Test.YtelfikbahcckaaaDoorN3
set_option linter.unusedSimpArgs false
set_option linter.unusedVariables false
namespace Go.Proofs.YtelfikbahcckaaaDoor
/-- An address' record. -/
def adr (tl : Nat) (a : Ad) : List Nat := nums2 [49164, 1, 1, tl / 65536, tl, 4] ++ [a.1, a.2.1, a.2.2.1, a.2.2.2]
def putA (id cd tl : Nat) (n : List Nat) (l : List Ad) : List Nat := putQ id (33152 + cd) l.length n ++ l.flatMap (adr tl)
theorem getD_pre (pre xs : List Nat) (i : Nat) : (pre ++ xs).getD (pre.length + i) 0 = xs.getD i 0 := by
  simp [List.getD, List.getElem?_append_right]
theorem getD_pre0 (pre xs : List Nat) : (pre ++ xs).getD pre.length 0 = xs.getD 0 0 := getD_pre pre xs 0
theorem txs_on (t : List Nat) (ht : t ≠ []) : ∀ (ps : List (List Nat)), ps ≠ [] → ps.foldl tx t = t ++ 46 :: jn ps
  | [], h => absurd rfl h
  | [p], _ => by simp [tx, ht, jn]
  | p :: q :: r, _ => by
    rw [List.foldl_cons, txs_on (tx t p) (by unfold tx; rw [if_neg ht]; simp) (q :: r) (by simp)]
    unfold tx
    rw [if_neg ht]
    simp [jn]
theorem txs_jn (ps : List (List Nat)) (h : ∀ p ∈ ps, p ≠ []) : ps.foldl tx [] = jn ps := by
  cases ps with
  | nil => rfl
  | cons p r =>
    rw [List.foldl_cons, show tx [] p = p from by simp [tx]]
    cases r with
    | nil => rfl
    | cons q r => rw [txs_on p (h p (by simp)) _ (by simp)]; rfl
theorem txs_le : ∀ (ps : List (List Nat)) (t : List Nat), t.length ≤ (ps.foldl tx t).length
  | [], t => Nat.le_refl _
  | p :: r, t => by
    refine Nat.le_trans ?_ (txs_le r (tx t p))
    unfold tx; split
    · rename_i h; rw [h]; simp
    · simp
/-- Labels that stand one behind the other are read. -/
theorem nm_lbe (b post : List Nat) (a q bh : Nat) : ∀ (ps : List (List Nat)) (pre t : List Nat), (∀ p ∈ ps, isLab p) → (ps.foldl tx t).length ≤ 253 → b = pre ++ (lbe ps ++ 0 :: post) → (name (ps.foldl tx t)).2 = .ok →
    nm b a q pre.length t bh = ((name (ps.foldl tx t)).1, if q = a then pre.length + (lbe ps).length + 1 else bh, .ok)
  | [], pre, t, _, hl, hb, ho => by
    have e : b = pre ++ 0 :: post := by simpa [lbe] using hb
    have ho' : (name t).2 = .ok := ho
    rw [nm_end (by rw [e]; simp) (by rw [e, getD_pre0]; rfl), if_pos ho']
    simp [lbe]
  | p :: ps, pre, t, hp, hl, hb, ho => by
    have h1 := hp p (by simp)
    have e : b = pre ++ (p.length :: (p ++ (lbe ps ++ 0 :: post))) := by rw [hb]; simp [lbe]
    have g0 : b.getD pre.length 0 = p.length := by rw [e, getD_pre0]; rfl
    have hln : b.length = pre.length + (1 + p.length + (lbe ps).length + 1 + post.length) := by rw [e]; simp; omega
    have hlb : lbl b pre.length = p := by
      unfold lbl
      rw [g0, e, show pre ++ p.length :: (p ++ (lbe ps ++ 0 :: post)) = (pre ++ [p.length]) ++ (p ++ (lbe ps ++ 0 :: post)) by simp, show pre.length + 1 = (pre ++ [p.length]).length by simp, List.drop_left, List.take_left]
    have h1a := h1.1
    have h1b := h1.2.1
    rw [nm_lab (by rw [g0]; omega) (by rw [g0]; omega) (by rw [g0]; omega) (by rw [hlb]; exact (labB_iff p).2 h1) (by rw [hlb]; exact Nat.le_trans (txs_le ps _) hl)]
    rw [hlb, g0, show pre.length + 1 + p.length = (pre ++ p.length :: p).length by simp; omega]
    rw [nm_lbe b post a q bh ps (pre ++ p.length :: p) (tx t p) (fun x hx => hp x (by simp [hx])) hl (by rw [e]; simp) ho]
    refine Prod.ext rfl (Prod.ext ?_ rfl)
    show (if q = a then _ else _) = (if q = a then _ else _)
    have : (lbe (p :: ps)).length = 1 + p.length + (lbe ps).length := by simp [lbe]; omega
    rw [this]
    split
    · simp; omega
    · rfl
/-- A name that was written is read, wherever one is led from. -/
theorem nm_put {n : List Nat} (h : name n = (n, .ok)) (pre post : List Nat) (a q bh : Nat) : nm (pre ++ (lbe (pcs n) ++ 0 :: post)) a q pre.length [] bh = (n, if q = a then pre.length + n.length + 2 else bh, .ok) := by
  obtain ⟨h1, h2, h3, h4⟩ := name_ok h
  have hl := (bLabsNone _ _).1 h2
  have hj : (pcs n).foldl tx [] = n := by
    rw [txs_jn _ (fun p hp e => by have := (hl p hp).1; rw [e] at this; simp at this), jn_pcs]
  rw [nm_lbe _ post a q bh (pcs n) pre [] hl (by rw [hj]; exact h1) rfl (by rw [hj, h]), hj, h, lbe_len _ (pcs_ne n), jn_pcs]
  rfl
theorem nam_put {n : List Nat} (h : name n = (n, .ok)) (pre post : List Nat) : nam (pre ++ (lbe (pcs n) ++ 0 :: post)) pre.length = (n, pre.length + n.length + 2, .ok) := by
  unfold nam; rw [nm_put h, if_pos rfl]
theorem num2_back (n : Nat) (h : n < 65536) : n / 256 % 256 * 256 + n % 256 = n := by omega
theorem nu_pre (pre post : List Nat) (x : Nat) : nu (pre ++ (num2 x ++ post)) (pre.length, .ok) = x % 65536 := by
  rw [nu_in (by simp [num2]), getD_pre0, getD_pre]
  simp [num2]
  omega
/-- The head of what was written. -/
theorem head_put (id fl an : Nat) (r : List Nat) (k : Nat) (hid : id < 65536) (hfl : fl < 65536) (han : an < 65536) (hk : fl &&& 64000 = k) (hl : (nums2 [id, fl, 1, an, 0, 0] ++ r).length ≤ 512) :
    s5 (nums2 [id, fl, 1, an, 0, 0] ++ r) k = (12, .ok) ∧ hId (nums2 [id, fl, 1, an, 0, 0] ++ r) = id ∧ hFl (nums2 [id, fl, 1, an, 0, 0] ++ r) = fl ∧ hAn (nums2 [id, fl, 1, an, 0, 0] ++ r) k = an := by
  obtain ⟨b, hb⟩ : ∃ b, b = nums2 [id, fl, 1, an, 0, 0] ++ r := ⟨_, rfl⟩
  rw [← hb] at hl ⊢
  have hb' : b = [id / 256 % 256, id % 256, fl / 256 % 256, fl % 256, 0, 1, an / 256 % 256, an % 256, 0, 0, 0, 0] ++ r := by rw [hb]; rfl
  have hln : 12 ≤ b.length := by rw [hb']; simp
  have o : opn b = (0, .ok) := by unfold opn; rw [if_neg (by omega)]
  have e1 : s1 b = (2, .ok) := by unfold s1; rw [o, tk_in (by omega)]
  have n0 : nu b (0, .ok) = id := by rw [nu_in (by omega), hb']; simp; omega
  have n2 : nu b (2, .ok) = fl := by rw [nu_in (by omega), hb']; simp; omega
  have n4 : nu b (4, .ok) = 1 := by rw [nu_in (by omega), hb']; simp
  have n6 : nu b (6, .ok) = an := by rw [nu_in (by omega), hb']; simp; omega
  have e2 : s2 b k = (4, .ok) := by unfold s2; rw [e1, tk_in (by omega), n2, chk1, if_pos (by simp [hk])]
  have e3 : s3 b k = (6, .ok) := by unfold s3; rw [e2, tk_in (by omega), n4, chk1, if_pos (by simp)]
  have e4 : s4 b k = (8, .ok) := by unfold s4; rw [e3, tk_in (by omega)]
  have e5 : s5 b k = (12, .ok) := by unfold s5; rw [e4]; exact tk_in (by show 8 + (12 - 8) ≤ _; omega)
  exact ⟨e5, by unfold hId; rw [o, n0], by unfold hFl; rw [e1, n2], by unfold hAn; rw [e3, n6]⟩
/-- The question of what was written. -/
theorem quest_put (id fl an : Nat) {n : List Nat} (h : name n = (n, .ok)) (r : List Nat) :
    mn (putQ id fl an n ++ r) (12, .ok) = (n, 14 + n.length, .ok) ∧ q2 (putQ id fl an n ++ r) (12, .ok) = (18 + n.length, .ok) := by
  have e : putQ id fl an n ++ r = nums2 [id, fl, 1, an, 0, 0] ++ (lbe (pcs n) ++ 0 :: (num2 1 ++ (num2 1 ++ r))) := by simp [putQ, nums2]
  have hm : mn (putQ id fl an n ++ r) (12, .ok) = (n, 14 + n.length, .ok) := by
    unfold mn
    rw [if_pos rfl, e]
    have := nam_put h (nums2 [id, fl, 1, an, 0, 0]) (num2 1 ++ (num2 1 ++ r))
    rw [show (nums2 [id, fl, 1, an, 0, 0]).length = 12 from rfl] at this
    rw [this]
    refine Prod.ext rfl (Prod.ext ?_ rfl)
    show 12 + n.length + 2 = 14 + n.length; omega
  refine ⟨hm, ?_⟩
  have hl := lbe_len _ (pcs_ne n)
  rw [jn_pcs] at hl
  have e1 : putQ id fl an n ++ r = (nums2 [id, fl, 1, an, 0, 0] ++ lbe (pcs n) ++ [0]) ++ (num2 1 ++ (num2 1 ++ r)) := by rw [e]; simp
  have e2 : putQ id fl an n ++ r = (nums2 [id, fl, 1, an, 0, 0] ++ lbe (pcs n) ++ [0] ++ num2 1) ++ (num2 1 ++ r) := by rw [e]; simp
  have l1 : (nums2 [id, fl, 1, an, 0, 0] ++ lbe (pcs n) ++ [0]).length = 14 + n.length := by rw [List.length_append, List.length_append, hl]; show 12 + (n.length + 1) + 1 = _; omega
  have l2 : (nums2 [id, fl, 1, an, 0, 0] ++ lbe (pcs n) ++ [0] ++ num2 1).length = 16 + n.length := by rw [List.length_append, l1]; show 14 + n.length + 2 = _; omega
  have hln : 18 + n.length ≤ (putQ id fl an n ++ r).length := by rw [e2, List.length_append, l2]; simp [num2]; omega
  have u1 : nu (putQ id fl an n ++ r) (14 + n.length, .ok) = 1 := by rw [e1, ← l1, nu_pre]
  have u2 : nu (putQ id fl an n ++ r) (16 + n.length, .ok) = 1 := by rw [e2, ← l2, nu_pre]
  have hq1 : q1 (putQ id fl an n ++ r) (12, .ok) = (16 + n.length, .ok) := by
    unfold q1
    rw [hm, u1, chk1, if_pos (by simp), tk_in (by omega)]
    refine Prod.ext ?_ rfl
    show 14 + n.length + 2 = _; omega
  unfold q2
  rw [hq1, hm, u2, chk1, if_pos (by simp), tk_in (by omega)]
  refine Prod.ext ?_ rfl
  show 16 + n.length + 2 = _; omega
theorem putQ_len (id fl an : Nat) (n : List Nat) : (putQ id fl an n).length = 18 + n.length := by
  have hl := lbe_len _ (pcs_ne n)
  rw [jn_pcs] at hl
  unfold putQ
  rw [List.length_append, List.length_append, List.length_append, hl]
  show 12 + (n.length + 1) + 1 + 4 = _; omega
theorem qus_put {id : Nat} {n : List Nat} (hid : id < 65536) (h : name n = (n, .ok)) : qus (putQ id 256 0 n) = ((id, n), .ok) := by
  obtain ⟨h1, _⟩ := name_ok h
  have hq := quest_put id 256 0 h []
  have hlen := putQ_len id 256 0 n
  have hh := head_put id 256 0 (lbe (pcs n) ++ [0] ++ nums2 [1, 1]) 0 hid (by omega) (by omega) (by decide) (by rw [show nums2 [id, 256, 1, 0, 0, 0] ++ (lbe (pcs n) ++ [0] ++ nums2 [1, 1]) = putQ id 256 0 n by simp [putQ]]; omega)
  rw [show nums2 [id, 256, 1, 0, 0, 0] ++ (lbe (pcs n) ++ [0] ++ nums2 [1, 1]) = putQ id 256 0 n by simp [putQ]] at hh
  rw [List.append_nil] at hq
  unfold qus
  rw [hh.1, hq.2, if_pos rfl, hq.1, hh.2.1]
/-- A record of an address, as it was written. -/
theorem rec_put {id fl an tl : Nat} {n : List Nat} (h : name n = (n, .ok)) (m : List Nat) (a : Ad) (r : List Nat) (htl : tl ≤ 1048576) {b : List Nat} (hb : b = putQ id fl an n ++ m ++ (adr tl a ++ r)) {p : Nat} (hp : p = (putQ id fl an n ++ m).length) :
    rc b (p, .ok) = ⟨n, 1, 1, tl, p + 12, 4⟩ ∧ rcS b (p, .ok) = (p + 16, .ok) ∧ adAt b (p + 12) = a := by
  have hq := putQ_len id fl an n
  have hp18 : 18 ≤ p := by rw [hp, List.length_append, hq]; omega
  have hln : p + 16 ≤ b.length := by rw [hb, List.length_append, ← hp, List.length_append]; simp [adr, nums2, num2]
  have gd : ∀ i, b.getD (p + i) 0 = (adr tl a ++ r).getD i 0 := fun i => by rw [hb, hp, getD_pre]
  have g0 : b.getD p 0 = 192 := gd 0
  have g1 : b.getD (p + 1) 0 = 12 := gd 1
  have hled : led b p = 12 := by unfold led; rw [g0, g1]
  have hm : mn b (p, .ok) = (n, p + 2, .ok) := by
    unfold mn
    rw [if_pos rfl]
    show ((nam b p).1, (nam b p).2) = _
    have e : b = nums2 [id, fl, 1, an, 0, 0] ++ (lbe (pcs n) ++ 0 :: (num2 1 ++ (num2 1 ++ (m ++ (adr tl a ++ r))))) := by rw [hb]; simp [putQ, nums2]
    have := nm_put h (nums2 [id, fl, 1, an, 0, 0]) (num2 1 ++ (num2 1 ++ (m ++ (adr tl a ++ r)))) p 12 (p + 2)
    rw [← e, show (nums2 [id, fl, 1, an, 0, 0]).length = 12 from rfl, if_neg (by omega)] at this
    unfold nam
    rw [nm_led (by rw [g0]; omega) (by omega) (by rw [hled]; omega), hled, if_pos rfl, this]
  have hr : ∀ k, k ≤ 5 → rs b (p, .ok) k = (p + 2 + 2 * k, .ok) := by
    intro k hk
    induction k with
    | zero => show (mn b (p, .ok)).2 = _; rw [hm]
    | succ k ih => show tk b 2 (rs b (p, .ok) k) = _; rw [ih (by omega), tk_in (by omega)]; refine Prod.ext ?_ rfl; show p + 2 + 2 * k + 2 = p + 2 + 2 * (k + 1); omega
  have nu' : ∀ i, i + 2 ≤ 16 → nu b (p + i, .ok) = (adr tl a ++ r).getD i 0 * 256 + (adr tl a ++ r).getD (i + 1) 0 := fun i hi => by
    rw [nu_in (by omega), gd, show p + i + 1 = p + (i + 1) by omega, gd]
  have r0 : nu b (rs b (p, .ok) 0) = 1 := by rw [hr 0 (by omega)]; refine (nu' 2 (by omega)).trans ?_; simp [adr, nums2, num2]
  have r1 : nu b (rs b (p, .ok) 1) = 1 := by rw [hr 1 (by omega)]; refine (nu' 4 (by omega)).trans ?_; simp [adr, nums2, num2]
  have r2 : nu b (rs b (p, .ok) 2) = tl / 65536 := by rw [hr 2 (by omega)]; refine (nu' 6 (by omega)).trans ?_; show tl / 65536 / 256 % 256 * 256 + tl / 65536 % 256 = _; omega
  have r3 : nu b (rs b (p, .ok) 3) = tl % 65536 := by rw [hr 3 (by omega)]; refine (nu' 8 (by omega)).trans ?_; show tl / 256 % 256 * 256 + tl % 256 = _; omega
  have r4 : nu b (rs b (p, .ok) 4) = 4 := by rw [hr 4 (by omega)]; refine (nu' 10 (by omega)).trans ?_; simp [adr, nums2, num2]
  have hs : secs (tl / 65536) (tl % 65536) = tl := by unfold secs; rw [if_neg (by omega)]; omega
  refine ⟨?_, ?_, ?_⟩
  · unfold rc
    rw [hm, r0, r1, r2, r3, r4, hs, hr 5 (by omega)]
  · unfold rcS
    rw [r4, hr 5 (by omega), tk_in (by omega)]
  · unfold adAt
    rw [show p + 12 + 1 = p + 13 by omega, show p + 12 + 2 = p + 14 by omega, show p + 12 + 3 = p + 15 by omega, gd 12, gd 13, gd 14, gd 15]
    rfl
theorem adrs_len (tl : Nat) : ∀ l : List Ad, (l.flatMap (adr tl)).length = 16 * l.length
  | [] => rfl
  | a :: l => by
    have := adrs_len tl l
    rw [List.flatMap_cons, List.length_append, this]
    show 16 + _ = 16 * (l.length + 1)
    omega
theorem rloop_put {id fl an tl : Nat} {n : List Nat} (h : name n = (n, .ok)) (htl : tl ≤ 1048576) {b : List Nat} : ∀ (todo done : List Ad) (t : Nat), tl ≤ t → done.length + todo.length ≤ 16 → b = putQ id fl an n ++ (done ++ todo).flatMap (adr tl) →
    rloop b todo.length ((18 + n.length + 16 * done.length, .ok), n, done, t) = ((18 + n.length + 16 * (done.length + todo.length), .ok), n, done ++ todo, if todo = [] then t else tl)
  | [], done, t, _, _, _ => by simp [rloop]
  | a :: todo, done, t, ht, hl, hb => by
    have hb1 : b = putQ id fl an n ++ done.flatMap (adr tl) ++ (adr tl a ++ todo.flatMap (adr tl)) := by rw [hb]; simp
    obtain ⟨x1, x2, x3⟩ := rec_put h (done.flatMap (adr tl)) a (todo.flatMap (adr tl)) htl hb1 (p := 18 + n.length + 16 * done.length) (by rw [List.length_append, putQ_len, adrs_len])
    have hst : rstep b ((18 + n.length + 16 * done.length, .ok), n, done, t) = ((18 + n.length + 16 * (done ++ [a]).length, .ok), n, done ++ [a], tl) := by
      rw [rstep_def_addr (by rw [x2]) (by rw [x1]) (by rw [x1]) (by rw [x1]) (by rw [x1]), x1, x2]
      simp only [x3]
      refine Prod.ext (Prod.ext ?_ rfl) (Prod.ext rfl (Prod.ext ?_ ?_))
      · show _ = 18 + n.length + 16 * (done ++ [a]).length; simp; omega
      · show more done a = _
        unfold more
        rw [if_neg (by simp at hl; omega)]
      · show min t tl = tl; omega
    show rloop b (todo.length + 1) _ = _
    rw [rloop_ok rfl, hst, rloop_put (id := id) (fl := fl) (an := an) h htl todo (done ++ [a]) tl (Nat.le_refl _) (by simp at hl ⊢; omega) (by rw [hb]; simp)]
    refine Prod.ext (Prod.ext ?_ rfl) (Prod.ext rfl (Prod.ext ?_ ?_))
    · show 18 + n.length + 16 * ((done ++ [a]).length + todo.length) = 18 + n.length + 16 * (done.length + (todo.length + 1)); simp; omega
    · show done ++ [a] ++ todo = done ++ a :: todo; simp
    · show (if todo = [] then tl else tl) = (if a :: todo = [] then t else tl); simp
theorem fl_and (cd : Nat) (h : cd < 16) : (33152 + cd) &&& 64000 = 32768 ∧ (33152 + cd) &&& 15 = cd := by
  have : ∀ c : Fin 16, (33152 + c.1) &&& 64000 = 32768 ∧ (33152 + c.1) &&& 15 = c.1 := by decide
  exact this ⟨cd, h⟩
/-- An answer that was written is read as it was. -/
theorem ans_put {id cd tl : Nat} {n : List Nat} {l : List Ad} (hid : id < 65536) (h : name n = (n, .ok)) (hcd : cd < 16) (htl : tl ≤ 1048576) (hl : l.length ≤ 16) (hc : cd ≠ 0 → l = []) (ht : l = [] → tl = 0) (hlen : (putA id cd tl n l).length ≤ 512) :
    ans (putA id cd tl n l) = (⟨id, n, cd, l, tl⟩, .ok) := by
  obtain ⟨b, hb⟩ : ∃ b, b = putA id cd tl n l := ⟨_, rfl⟩
  have hq := quest_put id (33152 + cd) l.length h (l.flatMap (adr tl))
  have e : putA id cd tl n l = nums2 [id, 33152 + cd, 1, l.length, 0, 0] ++ (lbe (pcs n) ++ [0] ++ nums2 [1, 1] ++ l.flatMap (adr tl)) := by simp [putA, putQ]
  obtain ⟨a1, a2⟩ := fl_and cd hcd
  have hh := head_put id (33152 + cd) l.length (lbe (pcs n) ++ [0] ++ nums2 [1, 1] ++ l.flatMap (adr tl)) 32768 hid (by omega) (by omega) a1 (by rw [← e]; exact hlen)
  rw [← e, ← hb] at hh
  rw [show putQ id (33152 + cd) l.length n ++ l.flatMap (adr tl) = b from hb.symm] at hq
  rw [← hb]
  obtain ⟨k1, k2, k3, k4⟩ := hh
  have hS : aS b = (18 + n.length, .ok) := by unfold aS; rw [k1, hq.2]
  have hN : aN b = n := by unfold aN; rw [k1, hq.1]
  have hL : aL b = if cd = 0 then ((18 + n.length + 16 * l.length, .ok), n, l, if l = [] then 1048576 else tl) else ((18 + n.length, .ok), n, [], 0) := by
    unfold aL
    rw [hS, hN, k3, k4, a2]
    split
    · have := rloop_put (id := id) (fl := 33152 + cd) (an := l.length) (tl := tl) h htl (b := b) l [] 1048576 htl (by simpa using hl) (by rw [hb]; rfl)
      simpa using this
    · rfl
  unfold ans
  rw [hL]
  by_cases c0 : cd = 0
  · rw [if_pos c0, if_pos rfl, k2, hN, k3, a2]
    by_cases hl0 : l = []
    · simp [hl0, ht hl0]
    · simp [hl0]
  · rw [if_neg c0, if_pos rfl, k2, hN, k3, a2]
    have := hc c0
    simp [this, ht this]
end Go.Proofs.YtelfikbahcckaaaDoor
