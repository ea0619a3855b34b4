/-
  Heads in numbers: what follows: what is written is read as it was, nothing hidden; no program.
-/
import Derived.Test.YtccoddmdlbdfjaaGreatDoorN
set_option linter.unusedSimpArgs false
set_option linter.unusedVariables false
namespace Go.Proofs.YtccoddmdlbdfjaaGreatDoor

theorem tb_range {c : Nat} (h : tb c = true) : 33 ≤ c ∧ c ≤ 126 ∧ c ≠ 58 := by
  simp only [tb, dig, mk, Bool.or_eq_true, Bool.and_eq_true, decide_eq_true_eq, List.contains_eq_mem, List.mem_cons, List.not_mem_nil, or_false] at h
  omega
theorem vb_range {c : Nat} (h : vb c = true) : c ≠ 13 ∧ c ≠ 10 ∧ c ≠ 0 := by
  simp only [vb, Bool.or_eq_true, Bool.and_eq_true, decide_eq_true_eq] at h
  omega
theorem tok_parts {l : List Nat} (h : tok l = true) : l ≠ [] ∧ l.length ≤ 64 ∧ ∀ c ∈ l, 33 ≤ c ∧ c ≤ 126 ∧ c ≠ 58 := by
  simp only [tok, Bool.and_eq_true, decide_eq_true_eq, List.all_eq_true] at h
  exact ⟨h.1.1, h.1.2, fun c hc => tb_range (h.2 c hc)⟩
theorem value_parts {l : List Nat} (h : value l = true) : l.length ≤ 4096 ∧ trim l = l ∧ ∀ c ∈ l, c ≠ 13 ∧ c ≠ 10 ∧ c ≠ 0 := by
  simp only [value, Bool.and_eq_true, decide_eq_true_eq, List.all_eq_true] at h
  exact ⟨h.1.1, h.1.2, fun c hc => vb_range (h.2 c hc)⟩

theorem dw_len (p : Nat → Bool) : ∀ (l : List Nat), (l.dropWhile p).length ≤ l.length
  | [] => by simp
  | c :: r => by
    rw [List.dropWhile_cons]
    have := dw_len p r
    split <;> simp <;> omega
theorem dw_id (p : Nat → Bool) {l : List Nat} (h : (l.dropWhile p).length = l.length) : ∀ c, l.head? = some c → p c = false := by
  intro c hc
  cases l with
  | nil => simp at hc
  | cons d r =>
    simp at hc; subst hc
    rw [List.dropWhile_cons] at h
    split at h
    · have := dw_len p r; simp at h; omega
    · rename_i g; simpa using g
theorem dw_of (p : Nat → Bool) {l : List Nat} (h : ∀ c, l.head? = some c → p c = false) : l.dropWhile p = l := by
  cases l with
  | nil => rfl
  | cons d r => rw [List.dropWhile_cons, if_neg (by simp [h d (by simp)])]
theorem trim_ends (l : List Nat) : trim l = l ↔ (∀ c, l.head? = some c → bk c = false) ∧ (∀ c, l.getLast? = some c → bk c = false) := by
  constructor
  · intro h
    have h1 : (trimR l).length ≤ l.length := by unfold trimR; rw [List.length_reverse]; have := dw_len bk l.reverse; rw [List.length_reverse] at this; exact this
    have h2 : (trim l).length ≤ (trimR l).length := dw_len bk _
    have hl : (trim l).length = l.length := by rw [h]
    have e0 : (trimR l).length = (l.reverse.dropWhile bk).length := by simp [trimR]
    have h3 : (l.reverse.dropWhile bk).length = l.reverse.length := by rw [List.length_reverse]; omega
    have hr := dw_id bk h3
    have e : trimR l = l := by unfold trimR; rw [dw_of bk hr, List.reverse_reverse]
    have e1 : trim l = l.dropWhile bk := by unfold trim trimL; rw [e]
    have h4 : (l.dropWhile bk).length = l.length := by rw [← e1, hl]
    refine ⟨dw_id bk h4, fun c hc => hr c ?_⟩
    rw [List.head?_reverse]; exact hc
  · rintro ⟨h1, h2⟩
    have e : trimR l = l := by
      unfold trimR
      rw [dw_of bk (fun c hc => h2 c (by rw [List.head?_reverse] at hc; exact hc)), List.reverse_reverse]
    unfold trim trimL
    rw [e, dw_of bk h1]
theorem trim_blank {v : List Nat} (h : trim v = v) : trim (32 :: v) = v := by
  obtain ⟨h1, h2⟩ := (trim_ends v).1 h
  cases v with
  | nil => decide
  | cons c r =>
    have hl : ∀ d, (32 :: c :: r).getLast? = some d → bk d = false := fun d hd => h2 d (by simpa [List.getLast?_cons_cons] using hd)
    have e : trimR (32 :: c :: r) = 32 :: c :: r := by
      unfold trimR
      rw [dw_of bk (fun d hd => hl d (by rw [List.head?_reverse] at hd; exact hd)), List.reverse_reverse]
    unfold trim trimL
    rw [e, List.dropWhile_cons, if_pos (by decide), dw_of bk h1]

theorem fst_none {d : Nat} : ∀ {l : List Nat}, d ∉ l → fst d l = none
  | [], _ => rfl
  | c :: r, h => by
    simp at h
    rw [fst, if_neg (fun e => h.1 e.symm), fst_none h.2]; rfl
theorem fst_app {d : Nat} : ∀ {p : List Nat} (r : List Nat), d ∉ p → fst d (p ++ d :: r) = some p.length
  | [], r, _ => by simp [fst]
  | c :: p, r, h => by
    simp at h
    rw [List.cons_append, fst, if_neg (fun e => h.1 e.symm), fst_app r h.2]; simp
theorem fst_lt {d : Nat} : ∀ {l : List Nat} {k : Nat}, fst d l = some k → k < l.length ∧ l[k]? = some d ∧ ∀ j, j < k → l[j]? ≠ some d
  | [], k, h => by simp [fst] at h
  | c :: r, k, h => by
    unfold fst at h
    split at h
    · simp at h; subst h; rename_i e; exact ⟨by simp, by simp [e], fun j hj => by omega⟩
    · rename_i e
      cases hp : fst d r with
      | none => simp [hp] at h
      | some j =>
        simp [hp] at h; subst h
        obtain ⟨h1, h2, h3⟩ := fst_lt hp
        refine ⟨by simp; omega, by simpa using h2, fun i hi => ?_⟩
        cases i with
        | zero => simpa using e
        | succ i => simpa using h3 i (by omega)
theorem fst_mem {d : Nat} : ∀ {l : List Nat}, d ∈ l → ∃ k, fst d l = some k
  | [], h => by simp at h
  | c :: r, h => by
    unfold fst
    by_cases e : c = d
    · exact ⟨0, by simp [e]⟩
    · have h' : d ∈ r := by
        rcases List.mem_cons.1 h with g | g
        · exact absurd g.symm e
        · exact g
      obtain ⟨k, hk⟩ := fst_mem h'
      exact ⟨k + 1, by simp [e, hk]⟩
theorem fst_none_iff {d : Nat} {l : List Nat} : fst d l = none ↔ d ∉ l :=
  ⟨fun h g => (by obtain ⟨k, hk⟩ := fst_mem g; rw [h] at hk; cases hk), fst_none⟩

theorem lone_false {l : List Nat} : lone l = false ↔ ∀ c ∈ l, c ≠ 13 ∧ c ≠ 10 := by
  simp only [lone, List.any_eq_false, Bool.or_eq_true, decide_eq_true_eq, not_or]
theorem fld_fline {f : Fd} (h : okF f = true) : fld (fline f) = (f, 0) := by
  obtain ⟨n, v⟩ := f
  simp only [okF, Bool.and_eq_true] at h
  obtain ⟨ht, hv⟩ := h
  obtain ⟨t1, t2, t3⟩ := tok_parts ht
  obtain ⟨v1, v2, v3⟩ := value_parts hv
  have hf : fst 58 (fline (n, v)) = some n.length := fst_app _ (fun hm => (t3 _ hm).2.2 rfl)
  have hlo : lone (fline (n, v)) = false := by
    rw [lone_false]
    intro c hc
    simp [fline] at hc
    rcases hc with hc | rfl | rfl | hc
    · have := t3 c hc; omega
    · decide
    · decide
    · have := v3 c hc; exact ⟨this.1, this.2.1⟩
  have e1 : (fline (n, v)).take n.length = n := by simp [fline]
  have e2 : (fline (n, v)).drop (n.length + 1) = 32 :: v := by simp [fline, List.drop_append]
  unfold fld
  rw [hf]
  simp only [hlo, e1, e2, ht, trim_blank v2, hv]
  simp
theorem flds_fline : ∀ (fs : List Fd) (a : Nat) (acc : List Fd), fs.all okF = true → acc.length + fs.length ≤ 64 → flds a (fs.map fline) acc = (acc ++ fs, .ok)
  | [], a, acc, _, _ => by simp [flds]
  | f :: fs, a, acc, h, hl => by
    simp only [List.all_cons, Bool.and_eq_true] at h
    simp at hl
    rw [List.map_cons, flds, if_neg (by omega), fld_fline h.1, if_neg (by simp), flds_fline fs _ _ h.2 (by simp; omega)]
    simp
theorem fld_ok {x : List Nat} (h : (fld x).2 = 0) : okF (fld x).1 = true := by
  unfold fld at h ⊢
  split
  · rename_i g; rw [g] at h; simp at h
  · rename_i k g
    rw [g] at h
    simp only at h ⊢
    split at h
    · simp at h
    · rename_i h1
      rw [if_neg h1]
      split at h
      · simp at h
      · rename_i h2
        rw [if_neg h2]
        split at h
        · simp at h
        · rename_i h3
          rw [if_neg h3]
          simp [okF]
          exact ⟨by simpa using h2, by simpa using h3⟩
theorem flds_ok : ∀ (ls : List (List Nat)) (a : Nat) (acc : List Fd), acc.all okF = true → acc.length ≤ 64 → (flds a ls acc).1.all okF = true ∧ (flds a ls acc).1.length ≤ 64
  | [], a, acc, h, hl => ⟨h, hl⟩
  | x :: r, a, acc, h, hl => by
    unfold flds
    split
    · simp
    · split
      · simp
      · rename_i h1 h2
        exact flds_ok r _ _ (by simp [h, fld_ok (by simpa using h2)]) (by simp; omega)
theorem req_ok (ls : List (List Nat)) : (req ls).1.2.all okF = true ∧ (req ls).1.2.length ≤ 64 := by
  cases ls with
  | nil => simp [req]
  | cons x r =>
    simp only [req]
    split
    · have := flds_ok r (x.length + 2) [] rfl (by simp)
      split
      · rename_i g; rw [g] at this; exact this
      · simp
    · simp
theorem request_ok (l : List Nat) : (request l).1.2.all okF = true ∧ (request l).1.2.length ≤ 64 := by
  unfold request
  split
  · simp
  · rename_i ls _
    have := req_ok ls
    split
    · rename_i g; rw [g] at this; exact this
    · simp
theorem rep_ok (ls : List (List Nat)) : (rep ls).1.2.all okF = true ∧ (rep ls).1.2.length ≤ 64 := by
  cases ls with
  | nil => simp [rep]
  | cons x r =>
    simp only [rep]
    split
    · have := flds_ok r (x.length + 2) [] rfl (by simp)
      split
      · rename_i g; rw [g] at this; exact this
      · simp
    · simp
theorem reply_ok (l : List Nat) : (reply l).1.2.all okF = true ∧ (reply l).1.2.length ≤ 64 := by
  unfold reply
  split
  · simp
  · rename_i ls _
    have := rep_ok ls
    split
    · rename_i g; rw [g] at this; exact this
    · simp
/-- Nothing hidden. -/
theorem okF_clean {f : Fd} (h : okF f = true) : f.1 ≠ [] ∧ ∀ c ∈ f.1 ++ f.2, c ≠ 13 ∧ c ≠ 10 ∧ c ≠ 0 := by
  simp only [okF, Bool.and_eq_true] at h
  obtain ⟨t1, t2, t3⟩ := tok_parts h.1
  obtain ⟨v1, v2, v3⟩ := value_parts h.2
  refine ⟨t1, fun c hc => ?_⟩
  simp at hc
  rcases hc with hc | hc
  · have := t3 c hc; omega
  · exact v3 c hc

theorem pair_no {l : List Nat} (h : ∀ c ∈ l, c ≠ 13) : pair l = none := by
  apply pair_of_none
  intro j g
  exact h 13 (List.mem_of_getElem? g.1) rfl
theorem fline_Ln {f : Fd} (h : okF f = true) : Ln (fline f) := by
  obtain ⟨h1, h2⟩ := okF_clean h
  refine ⟨by simp [fline], pair_no fun c hc => ?_⟩
  simp [fline] at hc
  rcases hc with hc | rfl | rfl | hc
  · exact (h2 c (by simp [hc])).1
  · decide
  · decide
  · exact (h2 c (by simp [hc])).1
theorem put_ok {x b : List Nat} {fs : List Fd} (h : put x fs = (b, 0)) : fs.all okF = true ∧ fs.length ≤ 64 ∧ tot (x :: fs.map fline) ≤ 8192 ∧ b = fl (x :: fs.map fline) := by
  unfold put at h
  split at h
  · simp at h
  · rename_i h1
    split at h
    · simp at h
    · rename_i h2
      simp at h h1
      refine ⟨by simpa using h1, by omega, by omega, h.symm⟩
theorem put_bad {x : List Nat} {fs : List Fd} (h : (put x fs).2 ≠ 0) : (put x fs).1 = [] := by
  unfold put at h ⊢
  split
  · rfl
  · rename_i h1
    rw [if_neg h1] at h
    split
    · rfl
    · rename_i h2; rw [if_neg h2] at h; simp at h
theorem put_hd {x b : List Nat} {fs : List Fd} (h : put x fs = (b, 0)) (hx : Ln x) (more : List Nat) : hd (b ++ more) = some (x :: fs.map fline) ∧ tot (x :: fs.map fline) = b.length := by
  obtain ⟨h1, h2, h3, h4⟩ := put_ok h
  refine ⟨?_, by rw [h4]; rfl⟩
  rw [h4]
  apply hd_of _ _ h3
  intro y hy
  simp at hy
  rcases hy with rfl | ⟨a, b', hm, rfl⟩
  · exact hx
  · exact fline_Ln (List.all_eq_true.1 h1 _ hm)
theorem request_back {x b : List Nat} {fs : List Fd} {q : Rq} (h : put x fs = (b, 0)) (hx : Ln x) (hq : rline x = (q, .ok)) (more : List Nat) : request (b ++ more) = ((q, fs), b.length, .ok) := by
  obtain ⟨h1, h2, h3, h4⟩ := put_ok h
  obtain ⟨g1, g2⟩ := put_hd h hx more
  unfold request
  rw [g1]
  have hf := flds_fline fs (x.length + 2) [] h1 (by simpa using h2)
  simp only [req, hq, hf, g2]
  simp
theorem reply_back {x b : List Nat} {fs : List Fd} {q : Nat × List Nat} (h : put x fs = (b, 0)) (hx : Ln x) (hq : yline x = (q, .ok)) (more : List Nat) : reply (b ++ more) = ((q, fs), b.length, .ok) := by
  obtain ⟨h1, h2, h3, h4⟩ := put_ok h
  obtain ⟨g1, g2⟩ := put_hd h hx more
  unfold reply
  rw [g1]
  have hf := flds_fline fs (x.length + 2) [] h1 (by simpa using h2)
  simp only [rep, hq, hf, g2]
  simp
/-- A text of a destination. -/
structure IsD (D : List Nat) (d : De) : Prop where
  mem : ∀ c ∈ D, 33 ≤ c ∧ c ≤ 126 ∧ c ≠ 47
  col : 58 ∈ D
  back : dest D = (d, .ok)
theorem rline_parts {m t : List Nat} (hm : tok m = true) (ht : ∀ c ∈ t, 33 ≤ c ∧ c ≤ 126) : rline (m ++ 32 :: (t ++ 32 :: v11)) = targ m t := by
  obtain ⟨t1, t2, t3⟩ := tok_parts hm
  have hb : bl (m ++ 32 :: (t ++ 32 :: v11)) = [m, t, v11] := by
    rw [bl_app m _ (fun h => by have := t3 _ h; omega), bl_app t _ (fun h => by have := ht _ h; omega), bl_one v11 (by decide)]
  have hl : lone (m ++ 32 :: (t ++ 32 :: v11)) = false := by
    rw [lone_false]
    intro c hc
    simp at hc
    rcases hc with hc | rfl | hc | rfl | hc
    · have := t3 c hc; omega
    · decide
    · have := ht c hc; omega
    · decide
    · have : ∀ c ∈ v11, c ≠ 13 ∧ c ≠ 10 := by decide
      exact this c hc
  unfold rline
  rw [hb]
  simp only [hl, hm, show ver v11 = true from rfl]
  simp
theorem line_Ln {m t : List Nat} (hm : tok m = true) (ht : ∀ c ∈ t, 33 ≤ c ∧ c ≤ 126) : Ln (m ++ 32 :: (t ++ 32 :: v11)) := by
  obtain ⟨t1, t2, t3⟩ := tok_parts hm
  refine ⟨by simp, pair_no fun c hc => ?_⟩
  simp at hc
  rcases hc with hc | rfl | hc | rfl | hc
  · have := t3 c hc; omega
  · decide
  · have := ht c hc; omega
  · decide
  · have : ∀ c ∈ v11, c ≠ 13 := by decide
    exact this c hc
theorem path_parts {p : List Nat} (h : path p = true) : p.head? = some 47 ∧ p.length ≤ 2048 ∧ ∀ c ∈ p, 33 ≤ c ∧ c ≤ 126 := by
  simp only [path, within, Bool.and_eq_true, decide_eq_true_eq, List.all_eq_true] at h
  exact ⟨h.1.1, h.1.2, h.2⟩
theorem targ_conn {D : List Nat} {d : De} (h : dest D = (d, .ok)) : targ conn D = ((conn, d, []), .ok) := by
  unfold targ; rw [if_pos rfl, h]
theorem cutT_of {D p : List Nat} {d : De} (hD : IsD D d) (hp : path p = true) : cutT (sch ++ (D ++ p)) = (D, p) := by
  obtain ⟨p1, p2, p3⟩ := path_parts hp
  obtain ⟨r, rfl⟩ : ∃ r, p = 47 :: r := by cases p with
    | nil => simp at p1
    | cons c r => simp at p1; exact ⟨r, by rw [p1]⟩
  have e : (sch ++ (D ++ 47 :: r)).drop 7 = D ++ 47 :: r := by simp [sch]
  unfold cutT
  rw [e, fst_app _ (fun h => (hD.mem _ h).2.2 rfl)]
  simp
theorem targ_other {m D p : List Nat} {d : De} (hm : m ≠ conn) (hD : IsD D d) (hp : path p = true) : targ m (sch ++ (D ++ p)) = ((m, d, p), .ok) := by
  have hc := cutT_of hD hp
  have ho : okT (sch ++ (D ++ p)) = true := by
    unfold okT; rw [hc]; simp [sch, hp]
  unfold targ
  rw [if_neg hm, if_neg (by simp [ho]), hc]
  simp only [goTo, if_pos hD.col, hD.back]

theorem bln_one (l : List Nat) : bln 1 l = [l] := by cases l <;> rfl
theorem bln_app : ∀ (p : List Nat) (k : Nat) (l : List Nat), 32 ∉ p → bln (k + 2) (p ++ 32 :: l) = p :: bln (k + 1) l
  | [], k, l, _ => by simp [bln]
  | c :: p, k, l, h => by
    simp at h
    rw [List.cons_append, bln, if_neg (fun e => h.1 e.symm), bln_app p k l h.2]; rfl
theorem bln_ne (k : Nat) (l : List Nat) : bln (k + 1) l ≠ [] := by
  cases k with
  | zero => rw [bln_one]; simp
  | succ k => cases l with
    | nil => simp [bln]
    | cons c r => unfold bln; split <;> simp
theorem bln_bl : ∀ (l : List Nat) (k : Nat), (bl l).length ≤ k + 1 → bln (k + 1) l = bl l
  | [], k, h => by cases k <;> rfl
  | c :: r, k, h => by
    have hne := bl_ne r
    by_cases hc : c = 32
    · rw [bl, if_pos hc] at h ⊢
      simp at h
      cases k with
      | zero => cases hb : bl r with
        | nil => exact absurd hb hne
        | cons a b => rw [hb] at h; simp at h
      | succ k => rw [bln, if_pos hc, bln_bl r k h]
    · rw [bl, if_neg hc] at h ⊢
      have hl : (bl r).length ≤ k + 1 := by
        cases hb : bl r with
        | nil => exact absurd hb hne
        | cons a b => rw [hb] at h; simpa using h
      have ih := bln_bl r k hl
      cases k with
      | zero =>
        rw [bln_one] at ih ⊢
        rw [← ih]; rfl
      | succ k => rw [bln, if_neg hc, ih]
theorem bln_len : ∀ (l : List Nat) (k : Nat), k + 1 ≤ (bl l).length → (bln (k + 1) l).length = k + 1
  | [], k, h => by simp [bl] at h; subst h; rfl
  | c :: r, k, h => by
    have hne := bl_ne r
    cases k with
    | zero => rw [bln_one]; rfl
    | succ k =>
      by_cases hc : c = 32
      · rw [bl, if_pos hc] at h
        simp at h
        rw [bln, if_pos hc, List.length_cons, bln_len r k h]
      · rw [bl, if_neg hc] at h
        have hl : k + 2 ≤ (bl r).length := by
          cases hb : bl r with
          | nil => exact absurd hb hne
          | cons a b => rw [hb] at h; simpa using h
        have ih := bln_len r (k + 1) hl
        rw [bln, if_neg hc]
        cases hb : bln (k + 2) r with
        | nil => rw [hb] at ih; simp at ih
        | cons a b => rw [hb] at ih; simpa using ih
theorem bl_len : ∀ (l : List Nat), (bl l).length ≤ l.length + 1
  | [] => by simp [bl]
  | c :: r => by
    have := bl_len r
    have hne := bl_ne r
    unfold bl
    split
    · simp; omega
    · cases hb : bl r with
      | nil => exact absurd hb hne
      | cons a b => rw [hb] at this; simp at this ⊢; omega
theorem reason_parts {p : List Nat} (h : reason p = true) : p.length ≤ 256 ∧ ∀ c ∈ p, 32 ≤ c ∧ c ≤ 126 := by
  simp only [reason, within, Bool.and_eq_true, decide_eq_true_eq, List.all_eq_true] at h
  exact ⟨h.1, h.2⟩
theorem yline_parts {c r : List Nat} {n : Nat} (hc : stat c = some n) (hr : reason r = true) : yline (v11 ++ 32 :: (c ++ 32 :: r)) = ((n, r), .ok) := by
  have hd : ∀ x ∈ c, 48 ≤ x ∧ x ≤ 57 := by
    unfold stat at hc
    split at hc
    · rename_i h; intro x hx; exact (dig_iff x).1 (List.all_eq_true.1 h.2.1 x hx)
    · cases hc
  have hb : bln 3 (v11 ++ 32 :: (c ++ 32 :: r)) = [v11, c, r] := by
    rw [bln_app v11 1 _ (by decide), bln_app c 0 _ (fun h => by have := hd _ h; omega), bln_one]
  unfold yline
  rw [hb]
  simp only [hr, hc, show ver v11 = true from rfl]
  simp
theorem yline_Ln {c r : List Nat} {n : Nat} (hc : stat c = some n) (hr : reason r = true) : Ln (v11 ++ 32 :: (c ++ 32 :: r)) := by
  obtain ⟨r1, r2⟩ := reason_parts hr
  have hd : ∀ x ∈ c, 48 ≤ x ∧ x ≤ 57 := by
    unfold stat at hc
    split at hc
    · rename_i h; intro x hx; exact (dig_iff x).1 (List.all_eq_true.1 h.2.1 x hx)
    · cases hc
  refine ⟨by simp, pair_no fun x hx => ?_⟩
  simp at hx
  rcases hx with hx | rfl | hx | rfl | hx
  · have : ∀ c ∈ v11, c ≠ 13 := by decide
    exact this x hx
  · decide
  · have := hd x hx; omega
  · decide
  · have := r2 x hx; omega
/-- What stands behind the head changes nothing. -/
theorem request_more {l : List Nat} {ls : List (List Nat)} (h : hd l = some ls) (more : List Nat) : request (l.take (tot ls) ++ more) = request l := by
  obtain ⟨h1, h2, h3, h4⟩ := hd_some h
  have : hd (l.take (tot ls) ++ more) = some ls := by rw [hd_take h]; exact hd_of more h2 h3
  unfold request
  rw [h, this]
theorem request_short {l : List Nat} (h : hd l = none) : request l = ((noR, []), 0, (enE l).2) := by
  unfold request; rw [h]
theorem enE_two (l : List Nat) : (enE l).2 = .ok ∧ (∃ ls, hd l = some ls ∧ (enE l).1 = tot ls) ∨ (hd l = none ∧ (enE l).1 = 0 ∧ ∃ a c, (enE l).2 = .one a c) := by
  unfold enE
  cases h : hd l with
  | some ls => exact Or.inl ⟨rfl, ls, rfl, rfl⟩
  | none =>
    refine Or.inr ⟨rfl, ?_⟩
    simp only
    split
    · exact ⟨rfl, _, _, rfl⟩
    · exact ⟨rfl, _, _, rfl⟩
theorem request_n (l : List Nat) : ((request l).2.1 = 0 ∧ (request l).2.2 ≠ .ok ∧ (request l).1 = (noR, [])) ∨ ((request l).2.2 = .ok ∧ ∃ ls, hd l = some ls ∧ (request l).2.1 = tot ls) := by
  unfold request
  split
  · rename_i h
    refine Or.inl ⟨rfl, ?_, rfl⟩
    rcases enE_two l with ⟨_, ls, g, _⟩ | ⟨_, _, a, c, g⟩
    · rw [h] at g; cases g
    · simp only; rw [g]; simp
  · rename_i ls h
    split
    · exact Or.inr ⟨rfl, ls, h, rfl⟩
    · rename_i q e hne hq
      exact Or.inl ⟨rfl, fun he => hne (by simp only at he; first | exact he | rw [he]), rfl⟩
end Go.Proofs.YtccoddmdlbdfjaaGreatDoor
